/-
  The program's sorted list: its keys rise; DataOk of the program.
-/
import Derived.Test.YtnbafoennnhppaaSeA
import Derived.Test.YtnbafoennnhppaaKl
namespace Go.Proofs.Ytnbafoennnhppaa
open Go.RowKit
theorem method_pair (k v : ByteArray) (w : World) : (method 251 34 (.agg #[.string k, .string v]) "loop.example/g00392/impl.key").run Try.prog w = .ok (123, .agg #[.string k, .string v]) w := by kernel_rfl
theorem key_any (k v : ByteArray) (w : World) : Calls Try.prog 123 #[.agg #[.string k, .string v]] w fun e w' => e = .returned (.string k) ∧ Below w.heap.size w w' := by
  go_enter Try.func123, Try.ntmps123
  go_wp2
  go_ret
  exact ⟨rfl, below_new (Below.refl _ _)⟩
set_option maxHeartbeats 4000000 in
theorem rises_at (S : Nat → Prop) (a : Option Addr) (n c : Nat) (l : List PB) (w : World) (h : Pr w S (.slice a n c) l) (hnm : n ≤ 1048576) :
    Calls Try.prog 47 #[.slice a n c] w fun e w' => e = .returned (.bool (riB l)) ∧ Below w.heap.size w w' := by
  have HN := hid (Rw.len h).1
  have H0 := hid h
  clear h
  go_enter Try.func47, Try.ntmps47
  go_wp2_with fail
  go_loopw [3] (fun i wr => ∃ k : Nat, 1 ≤ k ∧ k ≤ n + 1 ∧ i = .int .i64 k ∧ Hid (Below w.heap.size w wr) ∧ Hid (∀ i, i < k → i < l.length → i ≠ 0 → klt (pAtB l (i - 1)).1 (pAtB l i).1 = true)) (fun i _ => n + 1 - (intOf i).toNat)
  case atStart => exact ⟨1, Nat.le_refl _, by omega, rfl, Below.refl _ _, fun i h1 _ h3 => by omega⟩
  case round =>
    obtain ⟨k, hk1, hk2, rfl, HB, HS⟩ := hrel
    by_cases hlt : k < n
    · have hlt' : (k : Int) < (n : Int) := by omega
      have HP := hid (H0.out.below' HB.out)
      obtain ⟨b, off, rfl, _, hbw, hcell⟩ := HP.out.at (by omega)
      obtain ⟨j, rfl⟩ : ∃ j, k = j + 1 := ⟨k - 1, by omega⟩
      obtain ⟨c0, c1⟩ := hcell (j + 1) hlt
      obtain ⟨d0, d1⟩ := hcell j (by omega)
      have HT : Hid (klt (pAtB l j).1 (pAtB l (j + 1)).1 = true → ∀ i, i < j + 1 + 1 → i < l.length → i ≠ 0 → klt (pAtB l (i - 1)).1 (pAtB l i).1 = true) := by
        intro h i h1 h2 h3
        by_cases e : i = j + 1
        · subst e; exact h
        · exact HS.out i (by omega) h2 h3
      have HF : Hid (¬ klt (pAtB l j).1 (pAtB l (j + 1)).1 = true → riB l = false) := by
        intro h
        exact decide_eq_false fun hh => h (hh (j + 1) (by rw [← HN.out]; exact hlt) (by omega))
      clear hcell hbw HP HS
      generalize pAtB l (j + 1) = cur at c0 c1 HT HF
      generalize pAtB l j = prv at d0 d1 HT HF
      obtain ⟨ck, cv⟩ := cur
      obtain ⟨pk, pv⟩ := prv
      have T0 := hid (kl4_0 c0 c1 d0 d1)
      have m1 := method_pair ck cv
      have m2 := method_pair pk pv
      have hj0 : (0 : Int) < (j : Int) + 1 := by omega
      have hj1 : IntKind.i64.wrap ((j : Int) + 1 - 1) = (j : Int) := by rw [IntKind.wrap_i64]; omega
      have hj2 : (j : Int) < (n : Int) := by omega
      have hj3 : (0 : Int) ≤ (j : Int) + 1 := by omega
      have hj4 : (j : Int) + 1 < (n : Int) := by omega
      have hj5 : IntKind.i64.wrap ((j : Int)) = (j : Int) := by rw [IntKind.wrap_i64]; omega
      clear c0 c1 d0 d1
      rcases tri pk ck with ⟨t1, t2, t3, t4⟩ | rfl | ⟨t1, t2, t3, t4⟩
      · have HS1 := hid (HT.out t1)
        clear HT HF
        go_wp2_with fail
        go_region_held3 (fun v => v.cell? ⟨b, off + (j + 1) * 2, none⟩ = some (.string ck) ∧ v.cell? ⟨b, off + (j + 1) * 2 + 1, none⟩ = some (.string cv) ∧ v.cell? ⟨b, off + j * 2, none⟩ = some (.string pk) ∧ v.cell? ⟨b, off + j * 2 + 1, none⟩ = some (.string pv) ∧ KL wr v [(⟨b, off + (j + 1) * 2, none⟩, .string ck), (⟨b, off + (j + 1) * 2 + 1, none⟩, .string cv), (⟨b, off + j * 2, none⟩, .string pk), (⟨b, off + j * 2 + 1, none⟩, .string pv)])
          (first | assumption | exact kl4 (T0.out.call (below_drew _)) | exact kl4c hbC (by assumption))
          (first
          | (go_at_call_of 123 (Value.agg #[Value.string ck, Value.string cv]); refine (key_any ck cv _).mono ?_; rintro e w' ⟨rfl, hbC⟩)
          | (go_at_call_of 123 (Value.agg #[Value.string pk, Value.string pv]); refine (key_any pk pv _).mono ?_; rintro e w' ⟨rfl, hbC⟩))
        all_goals (rename_i hS; have HB1 := hid (Below.then' HB.out (kl4_bel hS) (Nat.le_refl _)); clear hS)
        go_wp2
        go_roundw
        case rel => exact ⟨j + 1 + 1, by omega, by omega, by go_num, HB1.out, HS1.out⟩
        case measure => simp [intOf]; omega
      · have t1 := less_irrefl pk.toList
        have HE := hid (HF.out (by show ¬ Op.bytesLess pk.toList pk.toList = true; rw [t1]; simp))
        clear HT HF
        go_wp2_with fail
        go_region_held3 (fun v => v.cell? ⟨b, off + (j + 1) * 2, none⟩ = some (.string pk) ∧ v.cell? ⟨b, off + (j + 1) * 2 + 1, none⟩ = some (.string cv) ∧ v.cell? ⟨b, off + j * 2, none⟩ = some (.string pk) ∧ v.cell? ⟨b, off + j * 2 + 1, none⟩ = some (.string pv) ∧ KL wr v [(⟨b, off + (j + 1) * 2, none⟩, .string pk), (⟨b, off + (j + 1) * 2 + 1, none⟩, .string cv), (⟨b, off + j * 2, none⟩, .string pk), (⟨b, off + j * 2 + 1, none⟩, .string pv)])
          (first | assumption | exact kl4 (T0.out.call (below_drew _)) | exact kl4c hbC (by assumption))
          (first
          | (go_at_call_of 123 (Value.agg #[Value.string pk, Value.string cv]); refine (key_any pk cv _).mono ?_; rintro e w' ⟨rfl, hbC⟩)
          | (go_at_call_of 123 (Value.agg #[Value.string pk, Value.string pv]); refine (key_any pk pv _).mono ?_; rintro e w' ⟨rfl, hbC⟩))
        all_goals (rename_i hS; have HB1 := hid (Below.then' HB.out (kl4_bel hS) (Nat.le_refl _)); clear hS)
        go_wp2
        go_ret
        exact ⟨by rw [HE.out]; rfl, HB1.out⟩
      · have HE := hid (HF.out (by show ¬ Op.bytesLess pk.toList ck.toList = true; rw [t1]; simp))
        clear HT HF
        go_wp2_with fail
        go_region_held3 (fun v => v.cell? ⟨b, off + (j + 1) * 2, none⟩ = some (.string ck) ∧ v.cell? ⟨b, off + (j + 1) * 2 + 1, none⟩ = some (.string cv) ∧ v.cell? ⟨b, off + j * 2, none⟩ = some (.string pk) ∧ v.cell? ⟨b, off + j * 2 + 1, none⟩ = some (.string pv) ∧ KL wr v [(⟨b, off + (j + 1) * 2, none⟩, .string ck), (⟨b, off + (j + 1) * 2 + 1, none⟩, .string cv), (⟨b, off + j * 2, none⟩, .string pk), (⟨b, off + j * 2 + 1, none⟩, .string pv)])
          (first | assumption | exact kl4 (T0.out.call (below_drew _)) | exact kl4c hbC (by assumption))
          (first
          | (go_at_call_of 123 (Value.agg #[Value.string ck, Value.string cv]); refine (key_any ck cv _).mono ?_; rintro e w' ⟨rfl, hbC⟩)
          | (go_at_call_of 123 (Value.agg #[Value.string pk, Value.string pv]); refine (key_any pk pv _).mono ?_; rintro e w' ⟨rfl, hbC⟩))
        all_goals (rename_i hS; have HB1 := hid (Below.then' HB.out (kl4_bel hS) (Nat.le_refl _)); clear hS)
        go_wp2
        go_ret
        exact ⟨by rw [HE.out]; rfl, HB1.out⟩
    · have hlt' : ¬ (k : Int) < (n : Int) := by omega
      have HE : Hid (riB l = true) := decide_eq_true fun i h1 h2 => HS.out i (by have := HN.out; omega) h1 h2
      clear HS
      go_wp2
      go_ret
      exact ⟨by rw [HE.out]; rfl, HB.out⟩
set_option maxHeartbeats 4000000 in
theorem implDataOk_at (S : Nat → Prop) (a : Option Addr) (n c : Nat) (l : List PB) (w : World) (h : Pr w S (.slice a n c) l) (hnm : n ≤ 1048576) :
    Calls Try.prog 12 #[.slice a n c] w fun e w' => e = .returned (.bool (daOk l)) ∧ Below w.heap.size w w' := by
  have HN := hid (Rw.len h).1
  have H0 := hid h
  clear h
  go_enter Try.func12, Try.ntmps12
  go_wp2_with fail
  go_loopw [4, 7] (fun x i wr => ∃ k : Nat, k ≤ n ∧ i = .int .i64 k ∧ Hid (Below w.heap.size w wr) ∧ Hid (∀ i, i < k → uOk (pAtB l i).1 = true ∧ uvOk (pAtB l i).2 = true)) (fun _ i _ => n - (intOf i).toNat)
  case atStart => exact ⟨0, Nat.zero_le _, rfl, Below.refl _ _, fun i h => by omega⟩
  case round =>
    obtain ⟨k, hk, rfl, HB, HS⟩ := hrel
    by_cases hlt : k < n
    · have hlt' : (k : Int) < (n : Int) := by omega
      have HP := hid (H0.out.below' HB.out)
      obtain ⟨b, off, rfl, _, hbw, hcell⟩ := HP.out.at (by omega)
      obtain ⟨c0, c1⟩ := hcell k hlt
      have HF : Hid (¬ (uOk (pAtB l k).1 = true ∧ uvOk (pAtB l k).2 = true) → daOk l = false) := fun h => daOk_no (by rw [← HN.out]; exact hlt) fun hh => h hh.1
      have HT : Hid (uOk (pAtB l k).1 = true → uvOk (pAtB l k).2 = true → ∀ i, i < k + 1 → uOk (pAtB l i).1 = true ∧ uvOk (pAtB l i).2 = true) := by
        intro h1 h2 i hi
        by_cases e : i = k
        · subst e; exact ⟨h1, h2⟩
        · exact HS.out i (by omega)
      clear hcell HP HS
      generalize pAtB l k = cur at c0 c1 HF HT
      obtain ⟨ck, cv⟩ := cur
      cases h1 : uOk ck
      · have HE := hid (HF.out fun h => by rw [h1] at h; cases h.1)
        have C1 := hid (implUserOk_is ck _ h1)
        clear h1 HF HT
        go_wp2_with fail
        refine (C1.out _).mono ?_
        rintro e w1 ⟨rfl, rfl⟩
        go_wp2
        go_ret
        exact ⟨by rw [HE.out]; rfl, Below.then' HB.out (below_new (Below.refl _ _)) (Nat.le_refl _)⟩
      · have C1 := hid (implUserOk_is ck _ h1)
        cases h2 : uvOk cv
        · have HE := hid (HF.out fun h => by rw [h2] at h; cases h.2)
          have C2 := hid (implUvalOk_is cv _ h2)
          clear h1 h2 HF HT
          go_wp2_with fail
          refine (C1.out _).mono ?_
          rintro e w1 ⟨rfl, rfl⟩
          go_wp2_with fail
          refine (C2.out _).mono ?_
          rintro e w1 ⟨rfl, rfl⟩
          go_wp2
          go_ret
          exact ⟨by rw [HE.out]; rfl, Below.then' HB.out (below_new (Below.refl _ _)) (Nat.le_refl _)⟩
        · have C2 := hid (implUvalOk_is cv _ h2)
          have HS1 := hid (HT.out h1 h2)
          clear h1 h2 HF HT
          go_wp2_with fail
          refine (C1.out _).mono ?_
          rintro e w1 ⟨rfl, rfl⟩
          go_wp2_with fail
          refine (C2.out _).mono ?_
          rintro e w1 ⟨rfl, rfl⟩
          go_wp2
          go_roundw
          case rel => exact ⟨k + 1, by omega, by go_num, Below.then' HB.out (below_new (Below.refl _ _)) (Nat.le_refl _), HS1.out⟩
          case measure => simp [intOf]; omega
    · have hlt' : ¬ (k : Int) < (n : Int) := by omega
      have HE : Hid (riB l = daOk l) := daOk_riB fun i hi => HS.out i (by have := HN.out; omega)
      have HP := hid (H0.out.below' HB.out)
      clear HS
      go_wp2_with fail
      refine (rises_at S a n c l _ HP.out hnm).mono ?_
      rintro e w1 ⟨rfl, hb⟩
      have HB1 := hid (Below.then' HB.out hb (Nat.le_refl _))
      rw [HE.out]
      obtain ⟨z, hz⟩ : ∃ z, z = daOk l := ⟨_, rfl⟩
      rw [← hz]
      have HZ := hid hz
      clear hb HE hz
      go_wp2
      go_ret
      exact ⟨by rw [← HZ.out]; rfl, HB1.out⟩
end Go.Proofs.Ytnbafoennnhppaa

