/-
  TextTx of the specification.
-/
import Derived.Test.YtmogdijhlgonnabDoorTtQ
import Derived.Deep.RegionWith
import Derived.Deep.DeepCutAuto
namespace Go.Proofs.YtmogdijhlgonnabDoor
open Go.RowKit
set_option linter.unusedVariables false
theorem spl_len : ∀ (l acc : List UInt8), ∀ p ∈ spl acc l, p.length ≤ acc.length + l.length := by
  intro l
  induction l with
  | nil => intro acc p hp; simp [spl] at hp; subst hp; simp
  | cons c l ih =>
    intro acc p hp
    unfold spl at hp
    split at hp
    · rcases List.mem_cons.1 hp with rfl | q
      · simp
      · have := ih [] p q
        simp at this ⊢
        omega
    · have := ih _ p hp
      simp at this ⊢
      omega
theorem prt_size (s : ByteArray) (i : Nat) : ((prt s)[i]?.getD ⟨#[]⟩).size ≤ s.size := by
  by_cases h : i < (prt s).length
  · have hm : (prt s)[i] ∈ prt s := List.getElem_mem h
    unfold prt at hm
    obtain ⟨p, hp, e⟩ := List.mem_map.1 hm
    have hl := spl_len s.data.toList [] p hp
    have e2 : s.data.toList.length = s.size := by show s.data.toList.length = s.data.size; exact Array.length_toList
    rw [e2] at hl
    have e3 : (prt s)[i]?.getD ⟨#[]⟩ = ⟨p.toArray⟩ := by rw [List.getElem?_eq_getElem h]; exact e.symm
    rw [e3]
    show p.toArray.size ≤ _
    simpa using hl
  · rw [List.getElem?_eq_none (by omega)]
    exact Nat.zero_le _
/-- What stands at place j when k parts have been read. -/
def vk (s : ByteArray) (k j : Nat) : Int := if j < k then gAt (prt s) j else 0
theorem vk_all (s : ByteArray) (j : Nat) : vk s (prt s).length j = gAt (prt s) j := by
  unfold vk gAt
  split <;> simp
theorem vk_next (s : ByteArray) (k j : Nat) (h : j ≠ k) : vk s (k + 1) j = vk s k j := by
  unfold vk
  by_cases e : j < k
  · rw [if_pos e, if_pos (by omega)]
  · rw [if_neg e, if_neg (by omega)]
theorem vk_at (s : ByteArray) (k : Nat) (h : k < (prt s).length) : vk s (k + 1) k = tgN ((prt s)[k]?.getD ⟨#[]⟩) := by
  unfold vk gAt
  rw [if_pos (by omega), if_pos h]
def vrow (s : ByteArray) (k : Nat) : List Value := [.int .i64 (vk s k 0), .int .i64 (vk s k 1), .int .i64 (vk s k 2)]
theorem vrow_set (s : ByteArray) (k : Nat) (hk : k < 3) (h : k < (prt s).length) : (vrow s k).set k (.int .i64 (tgN ((prt s)[k]?.getD ⟨#[]⟩))) = vrow s (k + 1) := by
  unfold vrow
  rw [← vk_at s k h]
  have h3 : k = 0 ∨ k = 1 ∨ k = 2 := by omega
  rcases h3 with rfl | rfl | rfl
  · simp [vk_next s 0 1 (by omega), vk_next s 0 2 (by omega)]
  · simp [vk_next s 1 0 (by omega), vk_next s 1 2 (by omega)]
  · simp [vk_next s 2 0 (by omega), vk_next s 2 1 (by omega)]
theorem vrow_skip (s : ByteArray) (k : Nat) (hk : 3 ≤ k) : vrow s (k + 1) = vrow s k := by
  unfold vrow
  rw [vk_next s k 0 (by omega), vk_next s k 1 (by omega), vk_next s k 2 (by omega)]
theorem vrow_some (s : ByteArray) (k j : Nat) (h : j < 3) : ∃ z : Int, (vrow s k)[j]? = some (.int .i64 z) := by
  have h3 : j = 0 ∨ j = 1 ∨ j = 2 := by omega
  rcases h3 with rfl | rfl | rfl
  · exact ⟨_, rfl⟩
  · exact ⟨_, rfl⟩
  · exact ⟨_, rfl⟩
end Go.Proofs.YtmogdijhlgonnabDoor

