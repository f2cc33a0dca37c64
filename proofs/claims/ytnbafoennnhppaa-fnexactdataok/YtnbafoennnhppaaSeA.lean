/-
  Data in order, in plain; DataOk of the specification.
-/
import Derived.Test.YtnbafoennnhppaaRcU
import Derived.Test.YtnbafoennnhppaaGt
namespace Go.Proofs.Ytnbafoennnhppaa
open Go.RowKit
def daF (l : List PB) : Nat → Nat → Bool
  | 0, _ => true
  | f + 1, k => uOk (pAtB l k).1 && uvOk (pAtB l k).2 && (decide (k = 0) || Op.bytesLess (pAtB l (k - 1)).1.toList (pAtB l k).1.toList) && daF l f (k + 1)
/-- Right data. -/
def daOk (l : List PB) : Bool := daF l l.length 0
theorem daF_k (l : List PB) (f k : Nat) (h : uOk (pAtB l k).1 = false) : daF l (f + 1) k = false := by simp [daF, h]
theorem daF_v (l : List PB) (f k : Nat) (h : uvOk (pAtB l k).2 = false) : daF l (f + 1) k = false := by simp [daF, h]
theorem daF_0 (l : List PB) (f : Nat) (h : uOk (pAtB l 0).1 = true) (h2 : uvOk (pAtB l 0).2 = true) : daF l (f + 1) 0 = daF l f 1 := by simp [daF, h, h2]
theorem daF_s (l : List PB) (f j : Nat) (h : uOk (pAtB l (j + 1)).1 = true) (h2 : uvOk (pAtB l (j + 1)).2 = true) (b : Bool) (h3 : Op.bytesLess (pAtB l j).1.toList (pAtB l (j + 1)).1.toList = b) : daF l (f + 1) (j + 1) = (b && daF l f (j + 1 + 1)) := by
  simp only [daF, h, h2, Nat.add_sub_cancel, h3]; simp
theorem daF_iff (l : List PB) : ∀ (f k : Nat), daF l f k = true ↔ ∀ i, k ≤ i → i < k + f → (uOk (pAtB l i).1 = true ∧ uvOk (pAtB l i).2 = true) ∧ (i ≠ 0 → klt (pAtB l (i - 1)).1 (pAtB l i).1 = true)
  | 0, k => by simp only [daF, true_iff]; intro i h1 h2; omega
  | f + 1, k => by
    simp only [daF, Bool.and_eq_true]
    rw [daF_iff l f (k + 1)]
    constructor
    · rintro ⟨⟨⟨h1, h2⟩, h3⟩, h4⟩ i hi hk
      by_cases e : i = k
      · subst e
        refine ⟨⟨h1, h2⟩, fun h0 => ?_⟩
        simp [h0] at h3
        exact h3
      · exact h4 i (by omega) (by omega)
    · intro h
      refine ⟨⟨(h k (Nat.le_refl _) (by omega)).1, ?_⟩, fun i h1 h2 => h i (by omega) (by omega)⟩
      by_cases h0 : k = 0
      · simp [h0]
      · have := (h k (Nat.le_refl _) (by omega)).2 h0
        simp [h0]
        exact this
theorem daOk_iff (l : List PB) : daOk l = true ↔ ∀ i, i < l.length → (uOk (pAtB l i).1 = true ∧ uvOk (pAtB l i).2 = true) ∧ (i ≠ 0 → klt (pAtB l (i - 1)).1 (pAtB l i).1 = true) := by
  unfold daOk
  rw [daF_iff]
  constructor
  · exact fun h i hi => h i (Nat.zero_le _) (by omega)
  · exact fun h i _ hi => h i (by omega)
theorem daOk_no {l : List PB} {i : Nat} (hi : i < l.length) (h : ¬ ((uOk (pAtB l i).1 = true ∧ uvOk (pAtB l i).2 = true) ∧ (i ≠ 0 → klt (pAtB l (i - 1)).1 (pAtB l i).1 = true))) : daOk l = false := by
  cases hd : daOk l with
  | false => rfl
  | true => exact absurd ((daOk_iff l).1 hd i hi) h
theorem daOk_asc {l : List PB} (h : daOk l = true) : Asc l := by
  rw [daOk_iff] at h
  have adj : ∀ i, i + 1 < l.length → klt (pAtB l i).1 (pAtB l (i + 1)).1 = true := fun i hi => (h (i + 1) hi).2 (by omega)
  have far : ∀ d i, i + d + 1 < l.length → klt (pAtB l i).1 (pAtB l (i + d + 1)).1 = true := by
    intro d
    induction d with
    | zero => exact adj
    | succ d ih => exact fun i hi => klt_trans (ih i (by omega)) (adj _ (by omega))
  refine List.pairwise_iff_getElem.2 fun i j hi hj hij => ?_
  have := far (j - i - 1) i (by omega)
  rw [show i + (j - i - 1) + 1 = j by omega, pAtB_lt hi, pAtB_lt hj] at this
  exact this
/-- Whether the keys rise. -/
def riB (l : List PB) : Bool := decide (∀ i, i < l.length → i ≠ 0 → klt (pAtB l (i - 1)).1 (pAtB l i).1 = true)
theorem daOk_riB {l : List PB} (h : ∀ i, i < l.length → uOk (pAtB l i).1 = true ∧ uvOk (pAtB l i).2 = true) : riB l = daOk l := by
  unfold riB
  by_cases hr : ∀ i, i < l.length → i ≠ 0 → klt (pAtB l (i - 1)).1 (pAtB l i).1 = true
  · rw [decide_eq_true hr]
    exact ((daOk_iff l).2 fun i hi => ⟨h i hi, hr i hi⟩).symm
  · rw [decide_eq_false hr]
    cases hd : daOk l with
    | false => rfl
    | true => exact absurd (fun i hi => ((daOk_iff l).1 hd i hi).2) hr
theorem Pr.below' {w w' : World} {S : Nat → Prop} {v : Value} {ps : List PB} (h : Pr w S v ps) (hb : Below w.heap.size w w') : Pr w' S v ps := Rw.to h (only_of_below hb (fun _ => False)) (fun _ _ _ h => h)
theorem specUserOk_is (k : ByteArray) (b : Bool) (h : uOk k = b) (w : World) : Calls Try.prog 49 #[.string k] w fun e w' => e = .returned (.bool b) ∧ w' = w := by
  subst h
  exact (specUserOk_any k w).mono fun _ _ ⟨h1, h2⟩ => ⟨h1, h2.symm⟩
theorem specUvalOk_is (k : ByteArray) (b : Bool) (h : uvOk k = b) (w : World) : Calls Try.prog 50 #[.string k] w fun e w' => e = .returned (.bool b) ∧ w' = w := by
  subst h
  exact (specUvalOk_any k w).mono fun _ _ ⟨h1, h2⟩ => ⟨h1, h2.symm⟩
theorem implUserOk_is (k : ByteArray) (b : Bool) (h : uOk k = b) (w : World) : Calls Try.prog 45 #[.string k] w fun e w' => e = .returned (.bool b) ∧ w = w' := by
  subst h
  exact implUserOk_any k w
theorem implUvalOk_is (k : ByteArray) (b : Bool) (h : uvOk k = b) (w : World) : Calls Try.prog 46 #[.string k] w fun e w' => e = .returned (.bool b) ∧ w = w' := by
  subst h
  exact implUvalOk_any k w
set_option maxHeartbeats 4000000 in
theorem specDataOk_at (S : Nat → Prop) (a : Option Addr) (n c : Nat) (l : List PB) (w : World) (h : Pr w S (.slice a n c) l) (hnm : n ≤ 1048576) :
    Calls Try.prog 14 #[.slice a n c] w fun e w' => e = .returned (.bool (daOk l)) ∧ Below w.heap.size w w' := by
  obtain ⟨hn, hnc, hc⟩ := Rw.len h
  have H0 := hid h
  clear h
  have HN := hid hn
  clear hn
  have HR : Hid (daOk l = daF l n 0) := by show daOk l = daF l n 0; have := HN.out; rw [this]; rfl
  go_enter Try.func14, Try.ntmps14
  go_wp2_with fail
  go_loopw [3, 4, 7] (fun x y i wr => ∃ k : Nat, k ≤ n ∧ i = .int .i64 k ∧ Hid (Below w.heap.size w wr) ∧ Hid (daF l (n - k) k = daF l n 0)) (fun _ _ i _ => n - (intOf i).toNat)
  case atStart => exact ⟨0, Nat.zero_le _, rfl, Below.refl _ _, rfl⟩
  case round =>
    obtain ⟨k, hk, rfl, HB, HS⟩ := hrel
    by_cases hlt : k < n
    · have hlt' : (k : Int) < (n : Int) := by omega
      have HP := hid (H0.out.below HB.out)
      obtain ⟨b, off, rfl, _, hbw, hcell⟩ := HP.out.at (by omega)
      have hck := (hcell k hlt).1
      have hck1 := (hcell k hlt).2
      have e1 : n - k = (n - (k + 1)) + 1 := by omega
      have HE1 := hid e1
      clear e1
      rw [HE1.out] at HS
      cases k with
      | zero =>
        clear hcell
        simp only [Nat.zero_mul, Nat.add_zero] at hck hck1
        generalize hcur : pAtB l 0 = cur at hck hck1
        obtain ⟨ck, cv⟩ := cur
        have HC := hid hcur
        clear hcur
        cases h1 : uOk ck
        · have HZ : Hid (daF l n 0 = false) := by show daF l n 0 = false; rw [← HS.out]; exact daF_k l _ _ (by rw [HC.out]; exact h1)
          have C1 := specUserOk_is ck _ h1
          clear h1
          go_wp2_with fail
          go_quiet (first | (go_at_call 49; exact Calls.quiet_of_same (C1 _)) | fail)
          go_wp2
          go_ret
          exact ⟨by rw [HR.out, HZ.out]; rfl, Below.then' HB.out (Below.drewN' (below_new (Below.refl _ _)) _) (Nat.le_refl _)⟩
        · cases h2 : uvOk cv
          · have HZ : Hid (daF l n 0 = false) := by show daF l n 0 = false; rw [← HS.out]; exact daF_v l _ _ (by rw [HC.out]; exact h2)
            have C1 := specUserOk_is ck _ h1
            have C2 := specUvalOk_is cv _ h2
            clear h1 h2
            go_wp2_with fail
            go_quiet (first | (go_at_call 49; exact Calls.quiet_of_same (C1 _)) | (go_at_call 50; exact Calls.quiet_of_same (C2 _)) | fail)
            go_wp2
            go_ret
            exact ⟨by rw [HR.out, HZ.out]; rfl, Below.then' HB.out (Below.drewN' (below_new (Below.refl _ _)) _) (Nat.le_refl _)⟩
          · have HZ : Hid (daF l (n - 1) 1 = daF l n 0) := by
              show daF l (n - 1) 1 = daF l n 0
              rw [← HS.out]; exact (daF_0 l _ (by rw [HC.out]; exact h1) (by rw [HC.out]; exact h2)).symm
            have C1 := specUserOk_is ck _ h1
            have C2 := specUvalOk_is cv _ h2
            clear h1 h2
            go_wp2_with fail
            go_quiet (first | (go_at_call 49; exact Calls.quiet_of_same (C1 _)) | (go_at_call 50; exact Calls.quiet_of_same (C2 _)) | fail)
            go_wp2
            go_roundw
            case rel => exact ⟨1, by omega, by go_num, Below.then' HB.out (Below.drewN' (below_new (Below.refl _ _)) _) (Nat.le_refl _), HZ⟩
            case measure => simp [intOf]; omega
      | succ j =>
        have hcj := (hcell j (by omega)).1
        have hj1 : (0 : Int) < (j : Int) + 1 := by omega
        clear hcell
        generalize hcur : pAtB l (j + 1) = cur at hck hck1
        obtain ⟨ck, cv⟩ := cur
        generalize hprev : (pAtB l j).1 = prev at hcj
        have HC := hid hcur
        have HQ := hid hprev
        clear hcur hprev
        cases h1 : uOk ck
        · have HZ : Hid (daF l n 0 = false) := by show daF l n 0 = false; rw [← HS.out]; exact daF_k l _ _ (by rw [HC.out]; exact h1)
          have C1 := specUserOk_is ck _ h1
          clear h1
          go_wp2_with fail
          go_quiet (first | (go_at_call 49; exact Calls.quiet_of_same (C1 _)) | fail)
          go_wp2
          go_ret
          exact ⟨by rw [HR.out, HZ.out]; rfl, Below.then' HB.out (Below.drewN' (below_new (Below.refl _ _)) _) (Nat.le_refl _)⟩
        · cases h2 : uvOk cv
          · have HZ : Hid (daF l n 0 = false) := by show daF l n 0 = false; rw [← HS.out]; exact daF_v l _ _ (by rw [HC.out]; exact h2)
            have C1 := specUserOk_is ck _ h1
            have C2 := specUvalOk_is cv _ h2
            clear h1 h2
            go_wp2_with fail
            go_quiet (first | (go_at_call 49; exact Calls.quiet_of_same (C1 _)) | (go_at_call 50; exact Calls.quiet_of_same (C2 _)) | fail)
            go_wp2
            go_ret
            exact ⟨by rw [HR.out, HZ.out]; rfl, Below.then' HB.out (Below.drewN' (below_new (Below.refl _ _)) _) (Nat.le_refl _)⟩
          · have HG : Hid (∀ b, Op.bytesLess prev.toList ck.toList = b → (b && daF l (n - (j + 1 + 1)) (j + 1 + 1)) = daF l n 0) := by
              intro b hb
              rw [← HS.out]
              exact (daF_s l _ j (by rw [HC.out]; exact h1) (by rw [HC.out]; exact h2) b (by rw [HQ.out, HC.out]; exact hb)).symm
            have C1 := specUserOk_is ck _ h1
            have C2 := specUvalOk_is cv _ h2
            clear h1 h2
            rcases tri prev ck with ⟨t1, t2, t3, t4⟩ | rfl | ⟨t1, t2, t3, t4⟩
            · have HZ : Hid (daF l (n - (j + 1 + 1)) (j + 1 + 1) = daF l n 0) := by show daF l (n - (j + 1 + 1)) (j + 1 + 1) = daF l n 0; have := HG.out _ t1; simpa using this
              go_wp2_with fail
              go_quiet (first | (go_at_call 49; exact Calls.quiet_of_same (C1 _)) | (go_at_call 50; exact Calls.quiet_of_same (C2 _)) | fail)
              go_wp2
              go_roundw
              case rel => exact ⟨j + 1 + 1, by omega, by go_num, Below.then' HB.out (Below.drewN' (below_new (Below.refl _ _)) _) (Nat.le_refl _), HZ⟩
              case measure => simp [intOf]; omega
            · have t1 := less_irrefl prev.toList
              have HZ : Hid (daF l n 0 = false) := by show daF l n 0 = false; have := HG.out _ t1; simpa using this.symm
              go_wp2_with fail
              go_quiet (first | (go_at_call 49; exact Calls.quiet_of_same (C1 _)) | (go_at_call 50; exact Calls.quiet_of_same (C2 _)) | fail)
              go_wp2
              go_ret
              exact ⟨by rw [HR.out, HZ.out]; rfl, Below.then' HB.out (Below.drewN' (below_new (Below.refl _ _)) _) (Nat.le_refl _)⟩
            · have HZ : Hid (daF l n 0 = false) := by show daF l n 0 = false; have := HG.out _ t1; simpa using this.symm
              go_wp2_with fail
              go_quiet (first | (go_at_call 49; exact Calls.quiet_of_same (C1 _)) | (go_at_call 50; exact Calls.quiet_of_same (C2 _)) | fail)
              go_wp2
              go_ret
              exact ⟨by rw [HR.out, HZ.out]; rfl, Below.then' HB.out (Below.drewN' (below_new (Below.refl _ _)) _) (Nat.le_refl _)⟩
    · have hk' : k = n := by omega
      have HZ : Hid (daF l n 0 = true) := by show daF l n 0 = true; rw [← HS.out, hk', Nat.sub_self]; rfl
      clear hk'
      go_wp2
      go_ret
      exact ⟨by rw [HR.out, HZ.out]; rfl, HB.out⟩
theorem specDataOk_any (S : Nat → Prop) (v : Value) (l : List PB) (w : World) (h : Pr w S v l) (hnm : l.length ≤ 1048576) :
    Calls Try.prog 14 #[v] w fun e w' => e = .returned (.bool (daOk l)) ∧ Below w.heap.size w w' := by
  obtain ⟨a, c, rfl, _⟩ := h.shape
  exact specDataOk_at S a _ c l w h hnm
end Go.Proofs.Ytnbafoennnhppaa

