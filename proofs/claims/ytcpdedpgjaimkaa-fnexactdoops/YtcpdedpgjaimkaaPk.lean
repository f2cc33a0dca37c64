/-
  PairsOk of the program and of the specification: both answer pOk.
-/
import Derived.Test.YtcpdedpgjaimkaaHp
namespace Go.Proofs.Ytcpdedpgjaimkaa
open Go.RowKit

theorem pOkF_k (l : List PB) (f k : Nat) (h : kOk (pAtB l k).1 = false) : pOkF l (f + 1) k = false := by simp [pOkF, h]
theorem pOkF_v (l : List PB) (f k : Nat) (h : vOk (pAtB l k).2 = false) : pOkF l (f + 1) k = false := by simp [pOkF, h]
theorem pOkF_0 (l : List PB) (f : Nat) (h : kOk (pAtB l 0).1 = true) (h2 : vOk (pAtB l 0).2 = true) : pOkF l (f + 1) 0 = pOkF l f 1 := by simp [pOkF, h, h2]
theorem pOkF_s (l : List PB) (f j : Nat) (h : kOk (pAtB l (j + 1)).1 = true) (h2 : vOk (pAtB l (j + 1)).2 = true) (b : Bool) (h3 : Op.bytesLess (pAtB l j).1.toList (pAtB l (j + 1)).1.toList = b) : pOkF l (f + 1) (j + 1) = (b && pOkF l f (j + 1 + 1)) := by
  simp only [pOkF, h, h2, Nat.add_sub_cancel, h3]; simp
theorem Pr.below {w w' : World} {S : Nat → Prop} {v : Value} {ps : List PB} (h : Pr w S v ps) (hb : Below w.heap.size w w') : Pr w' S v ps := Rw.to h (only_of_below hb (fun _ => False)) (fun _ _ _ h => h)
set_option maxHeartbeats 4000000 in
theorem implPairsOk_at (S : Nat → Prop) (a : Option Addr) (n c : Nat) (l : List PB) (w : World) (h : Pr w S (.slice a n c) l) :
    Calls Try.prog 152 #[.slice a n c] w fun e w' => e = .returned (.bool (pOk l)) ∧ Below w.heap.size w w' := by
  obtain ⟨hn, hnc, hc⟩ := Rw.len h
  have H0 := hid h
  clear h
  have HN := hid hn
  clear hn
  by_cases hbig : 200 < n
  · have hb : (200 : Int) < (n : Int) := by omega
    have HR : Hid (pOk l = false) := by show pOk l = false; have := HN.out; simp [pOk]; omega
    go_enter Try.func152, Try.ntmps152
    go_wp2
    go_ret
    exact ⟨by rw [HR.out]; rfl, Below.refl _ _⟩
  · have hb : ¬ (200 : Int) < (n : Int) := by omega
    have HR : Hid (pOk l = pOkF l n 0) := by show pOk l = pOkF l n 0; have := HN.out; rw [this]; simp [pOk]; omega
    go_enter Try.func152, Try.ntmps152
    go_wp2_with fail
    go_loopw [3, 4, 10] (fun x y i wr => ∃ k : Nat, k ≤ n ∧ i = .int .i64 k ∧ Hid (Below w.heap.size w wr) ∧ Hid (pOkF l (n - k) k = pOkF l n 0)) (fun _ _ i _ => n - (intOf i).toNat)
    case atStart => exact ⟨0, Nat.zero_le _, rfl, Below.refl _ _, rfl⟩
    case round =>
      obtain ⟨k, hk, rfl, HB, HS⟩ := hrel
      by_cases hlt : k < n
      · have hlt' : (k : Int) < (n : Int) := by omega
        have HP := hid (H0.out.below HB.out)
        obtain ⟨b, off, rfl, _, hbw, hcell⟩ := HP.out.at (by omega)
        have hck := (hcell k hlt).1
        have hck1 := (hcell k hlt).2
        have e1 : n - k = (n - (k + 1)) + 1 := by omega
        have HE1 := hid e1
        clear e1
        rw [HE1.out] at HS
        cases k with
        | zero =>
          clear hcell
          simp only [Nat.zero_mul, Nat.add_zero] at hck hck1
          generalize hcur : pAtB l 0 = cur at hck hck1
          obtain ⟨ck, cv⟩ := cur
          have HC := hid hcur
          clear hcur
          cases h1 : kOk ck
          · have HZ : Hid (pOkF l n 0 = false) := by show pOkF l n 0 = false; rw [← HS.out]; exact pOkF_k l _ _ (by rw [HC.out]; exact h1)
            have C1 := implKeyOk_is ck _ h1
            clear h1
            go_wp2_with fail
            go_quiet (first | (go_at_call 46; exact Calls.quiet_of_same (C1 _)) | fail)
            go_wp2
            go_ret
            exact ⟨by rw [HR.out, HZ.out]; rfl, Below.then' HB.out (Below.drewN' (below_new (Below.refl _ _)) _) (Nat.le_refl _)⟩
          · cases h2 : vOk cv
            · have HZ : Hid (pOkF l n 0 = false) := by show pOkF l n 0 = false; rw [← HS.out]; exact pOkF_v l _ _ (by rw [HC.out]; exact h2)
              have C1 := implKeyOk_is ck _ h1
              have C2 := implValOk_is cv _ h2
              clear h1 h2
              go_wp2_with fail
              go_quiet (first | (go_at_call 46; exact Calls.quiet_of_same (C1 _)) | (go_at_call 177; exact Calls.quiet_of_same (C2 _)) | fail)
              go_wp2
              go_ret
              exact ⟨by rw [HR.out, HZ.out]; rfl, Below.then' HB.out (Below.drewN' (below_new (Below.refl _ _)) _) (Nat.le_refl _)⟩
            · have HZ : Hid (pOkF l (n - 1) 1 = pOkF l n 0) := by
                show pOkF l (n - 1) 1 = pOkF l n 0
                rw [← HS.out]; exact (pOkF_0 l _ (by rw [HC.out]; exact h1) (by rw [HC.out]; exact h2)).symm
              have C1 := implKeyOk_is ck _ h1
              have C2 := implValOk_is cv _ h2
              clear h1 h2
              go_wp2_with fail
              go_quiet (first | (go_at_call 46; exact Calls.quiet_of_same (C1 _)) | (go_at_call 177; exact Calls.quiet_of_same (C2 _)) | fail)
              go_wp2
              go_roundw
              case rel => exact ⟨1, by omega, by go_num, Below.then' HB.out (Below.drewN' (below_new (Below.refl _ _)) _) (Nat.le_refl _), HZ⟩
              case measure => simp [intOf]; omega
        | succ j =>
          have hcj := (hcell j (by omega)).1
          have hj1 : (0 : Int) < (j : Int) + 1 := by omega
          clear hcell
          generalize hcur : pAtB l (j + 1) = cur at hck hck1
          obtain ⟨ck, cv⟩ := cur
          generalize hprev : (pAtB l j).1 = prev at hcj
          have HC := hid hcur
          have HQ := hid hprev
          clear hcur hprev
          cases h1 : kOk ck
          · have HZ : Hid (pOkF l n 0 = false) := by show pOkF l n 0 = false; rw [← HS.out]; exact pOkF_k l _ _ (by rw [HC.out]; exact h1)
            have C1 := implKeyOk_is ck _ h1
            clear h1
            go_wp2_with fail
            go_quiet (first | (go_at_call 46; exact Calls.quiet_of_same (C1 _)) | fail)
            go_wp2
            go_ret
            exact ⟨by rw [HR.out, HZ.out]; rfl, Below.then' HB.out (Below.drewN' (below_new (Below.refl _ _)) _) (Nat.le_refl _)⟩
          · cases h2 : vOk cv
            · have HZ : Hid (pOkF l n 0 = false) := by show pOkF l n 0 = false; rw [← HS.out]; exact pOkF_v l _ _ (by rw [HC.out]; exact h2)
              have C1 := implKeyOk_is ck _ h1
              have C2 := implValOk_is cv _ h2
              clear h1 h2
              go_wp2_with fail
              go_quiet (first | (go_at_call 46; exact Calls.quiet_of_same (C1 _)) | (go_at_call 177; exact Calls.quiet_of_same (C2 _)) | fail)
              go_wp2
              go_ret
              exact ⟨by rw [HR.out, HZ.out]; rfl, Below.then' HB.out (Below.drewN' (below_new (Below.refl _ _)) _) (Nat.le_refl _)⟩
            · have HG : Hid (∀ b, Op.bytesLess prev.toList ck.toList = b → (b && pOkF l (n - (j + 1 + 1)) (j + 1 + 1)) = pOkF l n 0) := by
                intro b hb
                rw [← HS.out]
                exact (pOkF_s l _ j (by rw [HC.out]; exact h1) (by rw [HC.out]; exact h2) b (by rw [HQ.out, HC.out]; exact hb)).symm
              have C1 := implKeyOk_is ck _ h1
              have C2 := implValOk_is cv _ h2
              clear h1 h2
              rcases tri prev ck with ⟨t1, t2, t3, t4⟩ | rfl | ⟨t1, t2, t3, t4⟩
              · have HZ : Hid (pOkF l (n - (j + 1 + 1)) (j + 1 + 1) = pOkF l n 0) := by show pOkF l (n - (j + 1 + 1)) (j + 1 + 1) = pOkF l n 0; have := HG.out _ t1; simpa using this
                go_wp2_with fail
                go_quiet (first | (go_at_call 46; exact Calls.quiet_of_same (C1 _)) | (go_at_call 177; exact Calls.quiet_of_same (C2 _)) | fail)
                go_wp2
                go_roundw
                case rel => exact ⟨j + 1 + 1, by omega, by go_num, Below.then' HB.out (Below.drewN' (below_new (Below.refl _ _)) _) (Nat.le_refl _), HZ⟩
                case measure => simp [intOf]; omega
              · have t1 := less_irrefl prev.toList
                have HZ : Hid (pOkF l n 0 = false) := by show pOkF l n 0 = false; have := HG.out _ t1; simpa using this.symm
                go_wp2_with fail
                go_quiet (first | (go_at_call 46; exact Calls.quiet_of_same (C1 _)) | (go_at_call 177; exact Calls.quiet_of_same (C2 _)) | fail)
                go_wp2
                go_ret
                exact ⟨by rw [HR.out, HZ.out]; rfl, Below.then' HB.out (Below.drewN' (below_new (Below.refl _ _)) _) (Nat.le_refl _)⟩
              · have HZ : Hid (pOkF l n 0 = false) := by show pOkF l n 0 = false; have := HG.out _ t1; simpa using this.symm
                go_wp2_with fail
                go_quiet (first | (go_at_call 46; exact Calls.quiet_of_same (C1 _)) | (go_at_call 177; exact Calls.quiet_of_same (C2 _)) | fail)
                go_wp2
                go_ret
                exact ⟨by rw [HR.out, HZ.out]; rfl, Below.then' HB.out (Below.drewN' (below_new (Below.refl _ _)) _) (Nat.le_refl _)⟩
      · have hk' : k = n := by omega
        have HZ : Hid (pOkF l n 0 = true) := by show pOkF l n 0 = true; rw [← HS.out, hk', Nat.sub_self]; rfl
        clear hk'
        go_wp2
        go_ret
        exact ⟨by rw [HR.out, HZ.out]; rfl, HB.out⟩
theorem implPairsOk_any (S : Nat → Prop) (v : Value) (l : List PB) (w : World) (h : Pr w S v l) :
    Calls Try.prog 152 #[v] w fun e w' => e = .returned (.bool (pOk l)) ∧ Below w.heap.size w w' := by
  obtain ⟨a, c, rfl, _⟩ := h.shape
  exact implPairsOk_at S a _ c l w h
set_option maxHeartbeats 4000000 in
theorem specPairsOk_at (S : Nat → Prop) (a : Option Addr) (n c : Nat) (l : List PB) (w : World) (h : Pr w S (.slice a n c) l) :
    Calls Try.prog 155 #[.slice a n c] w fun e w' => e = .returned (.bool (pOk l)) ∧ Below w.heap.size w w' := by
  obtain ⟨hn, hnc, hc⟩ := Rw.len h
  have H0 := hid h
  clear h
  have HN := hid hn
  clear hn
  by_cases hbig : 200 < n
  · have hb : (200 : Int) < (n : Int) := by omega
    have HR : Hid (pOk l = false) := by show pOk l = false; have := HN.out; simp [pOk]; omega
    go_enter Try.func155, Try.ntmps155
    go_wp2
    go_ret
    exact ⟨by rw [HR.out]; rfl, Below.refl _ _⟩
  · have hb : ¬ (200 : Int) < (n : Int) := by omega
    have HR : Hid (pOk l = pOkF l n 0) := by show pOk l = pOkF l n 0; have := HN.out; rw [this]; simp [pOk]; omega
    go_enter Try.func155, Try.ntmps155
    go_wp2_with fail
    go_loopw [3, 4, 10] (fun x y i wr => ∃ k : Nat, k ≤ n ∧ i = .int .i64 k ∧ Hid (Below w.heap.size w wr) ∧ Hid (pOkF l (n - k) k = pOkF l n 0)) (fun _ _ i _ => n - (intOf i).toNat)
    case atStart => exact ⟨0, Nat.zero_le _, rfl, Below.refl _ _, rfl⟩
    case round =>
      obtain ⟨k, hk, rfl, HB, HS⟩ := hrel
      by_cases hlt : k < n
      · have hlt' : (k : Int) < (n : Int) := by omega
        have HP := hid (H0.out.below HB.out)
        obtain ⟨b, off, rfl, _, hbw, hcell⟩ := HP.out.at (by omega)
        have hck := (hcell k hlt).1
        have hck1 := (hcell k hlt).2
        have e1 : n - k = (n - (k + 1)) + 1 := by omega
        have HE1 := hid e1
        clear e1
        rw [HE1.out] at HS
        cases k with
        | zero =>
          clear hcell
          simp only [Nat.zero_mul, Nat.add_zero] at hck hck1
          generalize hcur : pAtB l 0 = cur at hck hck1
          obtain ⟨ck, cv⟩ := cur
          have HC := hid hcur
          clear hcur
          cases h1 : kOk ck
          · have HZ : Hid (pOkF l n 0 = false) := by show pOkF l n 0 = false; rw [← HS.out]; exact pOkF_k l _ _ (by rw [HC.out]; exact h1)
            have C1 := specKeyOk_is ck _ h1
            clear h1
            go_wp2_with fail
            go_quiet (first | (go_at_call 112; exact Calls.quiet_of_same (C1 _)) | fail)
            go_wp2
            go_ret
            exact ⟨by rw [HR.out, HZ.out]; rfl, Below.then' HB.out (Below.drewN' (below_new (Below.refl _ _)) _) (Nat.le_refl _)⟩
          · cases h2 : vOk cv
            · have HZ : Hid (pOkF l n 0 = false) := by show pOkF l n 0 = false; rw [← HS.out]; exact pOkF_v l _ _ (by rw [HC.out]; exact h2)
              have C1 := specKeyOk_is ck _ h1
              have C2 := specValOk_is cv _ h2
              clear h1 h2
              go_wp2_with fail
              go_quiet (first | (go_at_call 112; exact Calls.quiet_of_same (C1 _)) | (go_at_call 172; exact Calls.quiet_of_same (C2 _)) | fail)
              go_wp2
              go_ret
              exact ⟨by rw [HR.out, HZ.out]; rfl, Below.then' HB.out (Below.drewN' (below_new (Below.refl _ _)) _) (Nat.le_refl _)⟩
            · have HZ : Hid (pOkF l (n - 1) 1 = pOkF l n 0) := by
                show pOkF l (n - 1) 1 = pOkF l n 0
                rw [← HS.out]; exact (pOkF_0 l _ (by rw [HC.out]; exact h1) (by rw [HC.out]; exact h2)).symm
              have C1 := specKeyOk_is ck _ h1
              have C2 := specValOk_is cv _ h2
              clear h1 h2
              go_wp2_with fail
              go_quiet (first | (go_at_call 112; exact Calls.quiet_of_same (C1 _)) | (go_at_call 172; exact Calls.quiet_of_same (C2 _)) | fail)
              go_wp2
              go_roundw
              case rel => exact ⟨1, by omega, by go_num, Below.then' HB.out (Below.drewN' (below_new (Below.refl _ _)) _) (Nat.le_refl _), HZ⟩
              case measure => simp [intOf]; omega
        | succ j =>
          have hcj := (hcell j (by omega)).1
          have hj1 : (0 : Int) < (j : Int) + 1 := by omega
          clear hcell
          generalize hcur : pAtB l (j + 1) = cur at hck hck1
          obtain ⟨ck, cv⟩ := cur
          generalize hprev : (pAtB l j).1 = prev at hcj
          have HC := hid hcur
          have HQ := hid hprev
          clear hcur hprev
          cases h1 : kOk ck
          · have HZ : Hid (pOkF l n 0 = false) := by show pOkF l n 0 = false; rw [← HS.out]; exact pOkF_k l _ _ (by rw [HC.out]; exact h1)
            have C1 := specKeyOk_is ck _ h1
            clear h1
            go_wp2_with fail
            go_quiet (first | (go_at_call 112; exact Calls.quiet_of_same (C1 _)) | fail)
            go_wp2
            go_ret
            exact ⟨by rw [HR.out, HZ.out]; rfl, Below.then' HB.out (Below.drewN' (below_new (Below.refl _ _)) _) (Nat.le_refl _)⟩
          · cases h2 : vOk cv
            · have HZ : Hid (pOkF l n 0 = false) := by show pOkF l n 0 = false; rw [← HS.out]; exact pOkF_v l _ _ (by rw [HC.out]; exact h2)
              have C1 := specKeyOk_is ck _ h1
              have C2 := specValOk_is cv _ h2
              clear h1 h2
              go_wp2_with fail
              go_quiet (first | (go_at_call 112; exact Calls.quiet_of_same (C1 _)) | (go_at_call 172; exact Calls.quiet_of_same (C2 _)) | fail)
              go_wp2
              go_ret
              exact ⟨by rw [HR.out, HZ.out]; rfl, Below.then' HB.out (Below.drewN' (below_new (Below.refl _ _)) _) (Nat.le_refl _)⟩
            · have HG : Hid (∀ b, Op.bytesLess prev.toList ck.toList = b → (b && pOkF l (n - (j + 1 + 1)) (j + 1 + 1)) = pOkF l n 0) := by
                intro b hb
                rw [← HS.out]
                exact (pOkF_s l _ j (by rw [HC.out]; exact h1) (by rw [HC.out]; exact h2) b (by rw [HQ.out, HC.out]; exact hb)).symm
              have C1 := specKeyOk_is ck _ h1
              have C2 := specValOk_is cv _ h2
              clear h1 h2
              rcases tri prev ck with ⟨t1, t2, t3, t4⟩ | rfl | ⟨t1, t2, t3, t4⟩
              · have HZ : Hid (pOkF l (n - (j + 1 + 1)) (j + 1 + 1) = pOkF l n 0) := by show pOkF l (n - (j + 1 + 1)) (j + 1 + 1) = pOkF l n 0; have := HG.out _ t1; simpa using this
                go_wp2_with fail
                go_quiet (first | (go_at_call 112; exact Calls.quiet_of_same (C1 _)) | (go_at_call 172; exact Calls.quiet_of_same (C2 _)) | fail)
                go_wp2
                go_roundw
                case rel => exact ⟨j + 1 + 1, by omega, by go_num, Below.then' HB.out (Below.drewN' (below_new (Below.refl _ _)) _) (Nat.le_refl _), HZ⟩
                case measure => simp [intOf]; omega
              · have t1 := less_irrefl prev.toList
                have HZ : Hid (pOkF l n 0 = false) := by show pOkF l n 0 = false; have := HG.out _ t1; simpa using this.symm
                go_wp2_with fail
                go_quiet (first | (go_at_call 112; exact Calls.quiet_of_same (C1 _)) | (go_at_call 172; exact Calls.quiet_of_same (C2 _)) | fail)
                go_wp2
                go_ret
                exact ⟨by rw [HR.out, HZ.out]; rfl, Below.then' HB.out (Below.drewN' (below_new (Below.refl _ _)) _) (Nat.le_refl _)⟩
              · have HZ : Hid (pOkF l n 0 = false) := by show pOkF l n 0 = false; have := HG.out _ t1; simpa using this.symm
                go_wp2_with fail
                go_quiet (first | (go_at_call 112; exact Calls.quiet_of_same (C1 _)) | (go_at_call 172; exact Calls.quiet_of_same (C2 _)) | fail)
                go_wp2
                go_ret
                exact ⟨by rw [HR.out, HZ.out]; rfl, Below.then' HB.out (Below.drewN' (below_new (Below.refl _ _)) _) (Nat.le_refl _)⟩
      · have hk' : k = n := by omega
        have HZ : Hid (pOkF l n 0 = true) := by show pOkF l n 0 = true; rw [← HS.out, hk', Nat.sub_self]; rfl
        clear hk'
        go_wp2
        go_ret
        exact ⟨by rw [HR.out, HZ.out]; rfl, HB.out⟩
theorem specPairsOk_any (S : Nat → Prop) (v : Value) (l : List PB) (w : World) (h : Pr w S v l) :
    Calls Try.prog 155 #[v] w fun e w' => e = .returned (.bool (pOk l)) ∧ Below w.heap.size w w' := by
  obtain ⟨a, c, rfl, _⟩ := h.shape
  exact specPairsOk_at S a _ c l w h
end Go.Proofs.Ytcpdedpgjaimkaa

