/-
  Shards and keys, as far as FnRoute turns on them: the one shard whose range has a key is the key's; the parts of a cut range are what its shards and it have in common.
-/
import Derived.Test.YtbfgjadonilonaaRoute
import Derived.Test.YtbfgjadonilonaaCut
import Derived.Test.YtbfgjadonilonaaBothM
namespace Go.Proofs.Ytbfgjadonilonaa
open Go.RowKit
theorem cntF_skip (ss : List ByteArray) (k : ByteArray) (n : Nat) : ∀ (d j : Nat), j + d ≤ n → (∀ i, j ≤ i → i < j + d → Op.bytesLess k.toList (ss[i]?.getD ⟨#[]⟩).toList = false) → cntF ss k (n - j) j = cntF ss k (n - (j + d)) (j + d) := by
  intro d
  induction d with
  | zero => intro j _ _; rfl
  | succ d ih =>
    intro j h1 h2
    have e := h2 j (Nat.le_refl _) (by omega)
    rw [show n - j = (n - (j + 1)) + 1 by omega]
    simp only [cntF, e]
    have := ih (j + 1) (by omega) (fun i hi1 hi2 => h2 i (by omega) (by omega))
    rw [show j + 1 + d = j + (d + 1) by omega] at this
    simpa using this
theorem low_all {ss : List ByteArray} {k : ByteArray} (hs : sOk ss = true) : ∀ s, s ≤ ss.length → (s = 0 ∨ Op.bytesLess k.toList (ss[s - 1]?.getD ⟨#[]⟩).toList = false) → ∀ i, i < s → Op.bytesLess k.toList (ss[i]?.getD ⟨#[]⟩).toList = false := by
  intro s
  induction s with
  | zero => intro _ _ i hi; omega
  | succ t ih =>
    intro h1 h2 i hi
    have h3 : Op.bytesLess k.toList (ss[t]?.getD ⟨#[]⟩).toList = false := by simpa using h2
    by_cases e : i = t
    · subst e; exact h3
    · refine ih (by omega) ?_ i (by omega)
      rcases (sOk_at hs t (by omega)).2 with h4 | h4
      · exact .inl h4
      · refine .inr ?_
        cases h5 : Op.bytesLess k.toList (ss[t - 1]?.getD ⟨#[]⟩).toList with
        | false => rfl
        | true => rw [less_trans _ _ _ h5 h4] at h3; cases h3
theorem part_one {ss : List ByteArray} {k : ByteArray} {s : Nat} (hs : s ≤ ss.length) (h1 : sOk ss = true) (hk : rHas (pLo ss s) (pHi ss s) k = true) : rt ss k = s := by
  have hkk : kOk k = true := by
    simp only [rHas, Bool.and_eq_true] at hk
    exact hk.1.1.2
  have hlow : Op.bytesLess k.toList (pLo ss s).toList = false := by
    simp only [rHas, Bool.and_eq_true, Bool.not_eq_true'] at hk
    exact hk.1.2
  have hp1 : pOk ss s = true := by simp [pOk, h1, hs]
  have hp : s = 0 ∨ Op.bytesLess k.toList (ss[s - 1]?.getD ⟨#[]⟩).toList = false := by
    by_cases e : s = 0
    · exact .inl e
    · refine .inr ?_
      have : pLo ss s = ss[s - 1]?.getD ⟨#[]⟩ := by unfold pLo; rw [if_pos hp1, if_neg (by omega)]; simp
      rw [this] at hlow
      exact hlow
  have hq := (part_has h1 hkk s hs hp).2
  rw [hk] at hq
  have hc : cntF ss k ss.length 0 = cntF ss k (ss.length - s) s := by
    have := cntF_skip ss k ss.length s 0 (by omega) (fun i _ hi => low_all h1 s hs hp i (by omega))
    simpa using this
  unfold rt
  rw [h1, hkk, hc]
  by_cases e : s = ss.length
  · subst e
    simp [cntF]
  · rw [show ss.length - s = (ss.length - (s + 1)) + 1 by omega]
    have : Op.bytesLess k.toList (ss[s]?.getD ⟨#[]⟩).toList = true := by simpa [e] using hq.symm
    simp only [cntF, this]
    simp
theorem pOk_in {ss : List ByteArray} {s : Nat} (hs : s ≤ ss.length) : pOk ss s = sOk ss := by simp [pOk, hs]
theorem route_test {ss : List ByteArray} {k : ByteArray} {s : Nat} (hs : s ≤ ss.length) (hk : rHas (pLo ss s) (pHi ss s) k = true) : ((s : Int) == rt ss k) = sOk ss := by
  cases h : sOk ss with
  | true => rw [part_one hs h hk]; simp
  | false =>
    have : rt ss k = -1 := by simp [rt, h]
    rw [this]
    simp
theorem cut_mem (ss : List ByteArray) (lo hi : ByteArray) : ∀ (k : Nat), ∀ p ∈ cutTo ss lo hi k, ∃ i : Nat, i < k ∧ p = ((i : Int), bLo (pLo ss i) (pHi ss i) lo hi, bHi (pLo ss i) (pHi ss i) lo hi) ∧ bth (pLo ss i) (pHi ss i) lo hi = true := by
  intro k
  induction k with
  | zero => intro p hp; cases hp
  | succ k ih =>
    intro p hp
    rcases List.mem_append.1 hp with h | h
    · obtain ⟨i, h1, h2⟩ := ih p h
      exact ⟨i, by omega, h2⟩
    · split at h
      · rename_i hc
        simp only [Bool.and_eq_true] at hc
        exact ⟨k, by omega, List.mem_singleton.1 h, hc.2⟩
      · cases h
theorem pAt_mem (ps : List (Int × ByteArray × ByteArray)) (j : Nat) (h : j < ps.length) : pAt ps j ∈ ps := by
  unfold pAt
  rw [List.getElem?_eq_getElem h]
  exact List.getElem_mem h
theorem cut_at (ss : List ByteArray) (lo hi : ByteArray) (j : Nat) (h : j < (cutL ss lo hi).length) : ∃ i : Nat, i ≤ ss.length ∧ (pAt (cutL ss lo hi) j).1 = (i : Int) ∧ rIn (pAt (cutL ss lo hi) j).2.1 (pAt (cutL ss lo hi) j).2.2 (pLo ss i) (pHi ss i) = true ∧ rIn (pAt (cutL ss lo hi) j).2.1 (pAt (cutL ss lo hi) j).2.2 lo hi = true := by
  obtain ⟨i, h1, h2, h3⟩ := cut_mem ss lo hi _ _ (pAt_mem (cutL ss lo hi) j h)
  refine ⟨i, by omega, by rw [h2], ?_, ?_⟩
  · rw [h2]; exact both_in1 h3
  · rw [h2]; exact both_in2 h3
end Go.Proofs.Ytbfgjadonilonaa
