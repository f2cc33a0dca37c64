/-
  The number of a decimal text: what both TextNums answer, for every string.
-/
import Derived.Test.YtgnjknbgahickaaDoorNumImpl
import Derived.Test.YtgnjknbgahickaaDoorDoorN
import Derived.Lib.AtoiAllCases
import Derived.Lib.AtoiErrMem
namespace Go.Proofs.YtgnjknbgahickaaDoor
open Go.RowKit

def isDig (c : UInt8) : Prop := 48 ≤ c.toNat ∧ c.toNat ≤ 57
/-- What digits spell behind a. -/
def dval (a : Nat) (l : List UInt8) : Nat := l.foldl (fun a c => a * 10 + (c.toNat - 48)) a
theorem dval_cons (a : Nat) (c : UInt8) (l : List UInt8) : dval a (c :: l) = dval (a * 10 + (c.toNat - 48)) l := by simp only [dval, List.foldl_cons]
theorem dval_snoc (a : Nat) (l : List UInt8) (c : UInt8) : dval a (l ++ [c]) = dval a l * 10 + (c.toNat - 48) := by simp [dval]
theorem dval_ge (l : List UInt8) : ∀ a, a ≤ dval a l := by
  induction l with
  | nil => intro a; exact Nat.le_refl _
  | cons c l ih =>
    intro a
    rw [dval_cons]
    have := ih (a * 10 + (c.toNat - 48))
    omega
theorem dval_lt (l : List UInt8) : ∀ (_ : ∀ c ∈ l, isDig c) (a : Nat), dval a l + 1 ≤ (a + 1) * 10 ^ l.length := by
  induction l with
  | nil => intro _ a; simp [dval]
  | cons c l ih =>
    intro h a
    rw [dval_cons]
    have hc := h c List.mem_cons_self
    have := ih (fun c hc => h c (List.mem_cons_of_mem _ hc)) (a * 10 + (c.toNat - 48))
    have h2 : (a * 10 + (c.toNat - 48) + 1) * 10 ^ l.length ≤ ((a + 1) * 10) * 10 ^ l.length := Nat.mul_le_mul_right _ (by have := hc.1; have := hc.2; omega)
    rw [List.length_cons, Nat.pow_succ, Nat.mul_comm (10 ^ l.length) 10, ← Nat.mul_assoc]
    omega
theorem pu_ok (l : List UInt8) : ∀ a : Nat, (∀ c ∈ l, isDig c) → dval a l < 1844674407370955162 → Lib.parseUint10 a l = .ok (dval a l) := by
  induction l with
  | nil => intro a _ _; rfl
  | cons c l ih =>
    intro a h hv
    have hc := h c List.mem_cons_self
    rw [dval_cons] at hv ⊢
    have hge := dval_ge l (a * 10 + (c.toNat - 48))
    unfold Lib.parseUint10
    rw [if_pos (show 48 ≤ c.toNat ∧ c.toNat ≤ 57 from hc), if_neg (by omega), if_neg (by omega)]
    exact ih _ (fun c hc => h c (List.mem_cons_of_mem _ hc)) hv
theorem dec_dig (k : Nat) : ∀ u : Nat, u ≤ k → (∀ c ∈ Lib.decDigits u, isDig c) ∧ dval 0 (Lib.decDigits u) = u ∧ Lib.decDigits u ≠ [] := by
  induction k with
  | zero =>
    intro u hu
    have : u = 0 := by omega
    subst this
    rw [Lib.decDigits, dif_pos (by omega)]
    refine ⟨?_, rfl, by simp⟩
    intro c hc
    simp at hc
    subst hc
    exact ⟨by decide, by decide⟩
  | succ k ih =>
    intro u hu
    rw [Lib.decDigits]
    split
    · rename_i h
      have e : (UInt8.ofNat (48 + u)).toNat = 48 + u := by rw [UInt8.toNat_ofNat']; omega
      refine ⟨?_, ?_, by simp⟩
      · intro c hc
        simp only [List.mem_singleton] at hc
        subst hc
        exact ⟨by omega, by omega⟩
      · show 0 * 10 + ((UInt8.ofNat (48 + u)).toNat - 48) = u
        omega
    · rename_i h
      obtain ⟨h1, h2, h3⟩ := ih (u / 10) (by omega)
      have e : (UInt8.ofNat (48 + u % 10)).toNat = 48 + u % 10 := by rw [UInt8.toNat_ofNat']; omega
      refine ⟨?_, ?_, by simp⟩
      · intro c hc
        rcases List.mem_append.1 hc with a | a
        · exact h1 c a
        · simp only [List.mem_singleton] at a
          subst a
          exact ⟨by omega, by omega⟩
      · rw [dval_snoc, h2, e]
        omega
theorem atoi_dec (u : Nat) (hu : u ≤ 1099511627775) : Lib.atoiAll (Lib.decDigits u) = .ok (u : Int) := by
  obtain ⟨h1, h2, h3⟩ := dec_dig u u (Nat.le_refl _)
  cases hd : Lib.decDigits u with
  | nil => exact absurd hd h3
  | cons c r =>
    rw [hd] at h1 h2
    have hc := h1 c List.mem_cons_self
    rw [Lib.atoiAll_plain c r (by have := hc.1; omega) (by have := hc.1; omega)]
    unfold Lib.parseMag
    rw [if_neg (by simp), pu_ok _ 0 h1 (by omega), h2]
    unfold Lib.signless
    simp only
    rw [if_neg (by omega)]

/-- What TextNum answers. -/
def tn (s : ByteArray) : Option Int := if numS (dval 0 s.data.toList : Int) = s ∧ 1 ≤ s.size then some (dval 0 s.data.toList : Int) else none
theorem numS_inv (n : Int) (s : ByteArray) (h : numS n = s) (hs : 1 ≤ s.size) : 0 ≤ n ∧ n ≤ 1099511627775 ∧ s.data.toList = Lib.decDigits n.toNat := by
  by_cases hn : 0 ≤ n ∧ n ≤ 1099511627775
  · rw [numS_ok n hn.1 hn.2] at h
    exact ⟨hn.1, hn.2, by rw [← h]⟩
  · rw [numS_bad n hn] at h
    rw [← h] at hs
    exact absurd hs (by decide)
theorem tn_of (n : Int) (s : ByteArray) (h : numS n = s) (hs : 1 ≤ s.size) : tn s = some n := by
  obtain ⟨h0, h1, h2⟩ := numS_inv n s h hs
  have e : (dval 0 s.data.toList : Int) = n := by rw [h2, (dec_dig _ _ (Nat.le_refl _)).2.1]; omega
  unfold tn
  rw [e, if_pos ⟨h, hs⟩]
theorem tn_some (n : Int) (s : ByteArray) (h : tn s = some n) : numS n = s ∧ 1 ≤ s.size := by
  unfold tn at h
  split at h
  · rename_i hc
    cases h
    exact hc
  · cases h
theorem tn_atoi (n : Int) (s : ByteArray) (h : tn s = some n) : Lib.atoiAll s.data.toList = .ok n := by
  obtain ⟨a, b⟩ := tn_some n s h
  obtain ⟨h0, h1, h2⟩ := numS_inv n s a b
  rw [h2, atoi_dec n.toNat (by omega)]
  congr 1
  omega
theorem tn_digits (n : Int) (s : ByteArray) (h : tn s = some n) : s.size ≤ 13 ∧ ∀ c ∈ s.data.toList, isDig c := by
  obtain ⟨a, b⟩ := tn_some n s h
  obtain ⟨h0, h1, h2⟩ := numS_inv n s a b
  refine ⟨by rw [← a]; exact numS_size n, ?_⟩
  rw [h2]
  exact (dec_dig _ _ (Nat.le_refl _)).1
theorem take_snoc (s : ByteArray) (k : Nat) (h : k < s.size) : s.data.toList.take (k + 1) = s.data.toList.take k ++ [s[k]] := by
  rw [List.take_succ_eq_append_getElem (by simpa using h)]; rfl
theorem str_ne {a b : ByteArray} (h : a ≠ b) : (a.toList == b.toList) = false := by
  rw [beq_eq_false_iff_ne]
  intro e
  rw [ByteArray.toList_eq, ByteArray.toList_eq] at e
  exact h (Go.WideShapes.bytes_inj e)

theorem atoi_any (s : ByteArray) (w : World) (hs : s.size ≤ 1048576) (e1 : Err w 3) (e2 : Err w 4) :
    Calls Tryd.prog 46 #[.string s] w fun e w' => Below w.heap.size w w' ∧ ((∃ v, Lib.atoiAll s.data.toList = .ok v ∧ e = .returned (.tuple #[.int .i64 v, .nilIface])) ∨ (tn s = none ∧ ∃ n t x, e = .returned (.tuple #[.int .i64 n, .iface t x]))) := by
  obtain ⟨t1, x1, c1⟩ := e1
  obtain ⟨t2, x2, c2⟩ := e2
  have nn : ∀ (_ : ∀ v, Lib.atoiAll s.data.toList ≠ .ok v), tn s = none := by
    intro h
    cases hu : tn s with
    | none => rfl
    | some n => exact absurd (tn_atoi n s hu) (h n)
  rcases hc : Lib.atoiAll s.data.toList with v | _ | _
  · refine (Any.strconv_Atoi_ok Tryd.laysC172 s (by omega) v hc w).mono ?_
    rintro e w' ⟨he, hw⟩
    refine ⟨?_, .inl ⟨v, rfl, he⟩⟩
    rcases hw with rfl | ⟨t, rfl⟩
    · exact Below.refl _ _
    · exact Lib.bytesWorld_below _ _ _
  · refine (Any.strconv_Atoi_syntax Tryd.laysC172 s (by omega) hc _ w c1 (.inr ⟨t1, x1, rfl⟩)).mono ?_
    rintro e w' ⟨N, he, _, _, hb⟩
    exact ⟨hb, .inr ⟨nn (by rw [hc]; intro v; simp), _, _, _, he⟩⟩
  · refine (Any.strconv_Atoi_range Tryd.laysC172 s (by omega) hc _ w c2 (.inr ⟨t2, x2, rfl⟩)).mono ?_
    rintro e w' ⟨N, he, _, _, hb⟩
    exact ⟨hb, .inr ⟨nn (by rw [hc]; intro v; simp), _, _, _, he⟩⟩

set_option maxHeartbeats 800000 in
theorem implTextNum_any (s : ByteArray) (w : World) (hs : s.size ≤ 1048576) (ht : Tab w) (e1 : Err w 3) (e2 : Err w 4) (hg : 5 < w.heap.size) :
    Calls Tryd.prog 28 #[.string s] w fun e w' => e = .returned (.tuple #[.int .i64 ((tn s).getD 0), .bool (tn s).isSome]) ∧ Below w.heap.size w w' := by
  have HT := hid ht
  have HG := hid hg
  have HA := hid (atoi_any s w hs e1 e2)
  clear ht hg e1 e2
  go_enter Tryd.func28, Tryd.ntmps28
  go_wp2_with fail
  refine HA.out.mono ?_
  rintro e w1 ⟨hb1, ⟨v, hv, rfl⟩ | ⟨hnone, n, t, x, rfl⟩⟩
  · have HB := hid hb1
    have HN := hid (implNumText_any v w1 (HT.out.below hb1 HG.out))
    by_cases hq : numS v = s
    · have hpos : 1 ≤ s.size := by
        rcases Nat.eq_zero_or_pos s.size with h | h
        · have : s.data.toList = [] := List.eq_nil_of_length_eq_zero (by simpa using h)
          rw [this] at hv
          cases hv
        · exact h
      have HU := hid (tn_of v s hq hpos)
      rw [hq] at HN
      clear hq hv hb1
      go_wp2_with (go_at_call 26; refine HN.out.mono ?_; rintro e w2 ⟨rfl, hb2⟩)
      go_ret2
      exact ⟨by rw [HU.out]; rfl, HB.out.trans (hb2.mono HB.out.size)⟩
    · have HU : Hid (tn s = none) := by
        show tn s = none
        cases hu : tn s with
        | none => rfl
        | some m =>
          exfalso
          have := tn_atoi m s hu
          rw [hv] at this
          cases this
          exact hq (tn_some v s hu).1
      have hne := str_ne hq
      clear hq hv hb1
      go_wp2_with (go_at_call 26; refine HN.out.mono ?_; rintro e w2 ⟨rfl, hb2⟩)
      go_ret2
      exact ⟨by rw [HU.out]; rfl, HB.out.trans (hb2.mono HB.out.size)⟩
  · have HU := hid hnone
    have HB := hid hb1
    clear hnone hb1
    go_wp2
    go_ret2
    exact ⟨by rw [HU.out]; rfl, HB.out⟩
end Go.Proofs.YtgnjknbgahickaaDoor

