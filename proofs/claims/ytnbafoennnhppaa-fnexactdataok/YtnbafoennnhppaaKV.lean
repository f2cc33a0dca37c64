/-
  Keys and values: what the program's functions and the specification's answer, for all strings.
-/
import Derived.Test.YtnbafoennnhppaaBase
import Derived.Test.YtnbafoennnhppaaOrd
import Derived.Laws.Cover1
namespace Go.Proofs.Ytnbafoennnhppaa
open Go.RowKit

theorem str_empty {s : ByteArray} (h : s.toList = []) : s.size = 0 := by
  rw [ByteArray.toList_eq] at h
  show s.data.size = 0
  rw [← Array.length_toList, h]; rfl
theorem str_full {s : ByteArray} (h : ¬ s.toList = []) : 1 ≤ s.size := by
  rcases Nat.eq_zero_or_pos s.size with e | e
  · refine absurd ?_ h
    rw [ByteArray.toList_eq]
    exact List.eq_nil_of_length_eq_zero (by rw [Array.length_toList]; exact e)
  · exact e
theorem below_drew (w : World) : Below w.heap.size w w.drew := ⟨rfl, rfl, rfl, Nat.le_refl _, fun _ _ => rfl⟩
theorem Below.then' {B : Nat} {w w1 w2 : World} (h : Below B w w1) (h2 : Below w1.heap.size w1 w2) (hB : B ≤ w.heap.size) : Below B w w2 := h.trans (h2.mono (Nat.le_trans hB h.size))
theorem below_new {w w1 : World} {o : Obj} (h : Below (w.alloc o).heap.size (w.alloc o) w1) : Below w.heap.size w w1 := ((Below.refl _ _).alloc (Nat.le_refl _) o).trans (h.mono (by simp))

def kOk (k : ByteArray) : Bool := decide (1 ≤ k.size) && decide (k.size ≤ 16)
theorem implKeyOk_any (k : ByteArray) (w : World) : Calls Try.prog 89 #[.string k] w fun e w' => e = .returned (.bool (kOk k)) ∧ w = w' := by
  by_cases h : k.toList = []
  · have HE : Hid (kOk k = false) := by show kOk k = false; simp [kOk, str_empty h]
    go_enter Try.func89, Try.ntmps89
    go_wp2
    go_ret
    exact ⟨by rw [HE.out]; rfl, rfl⟩
  · have h2 : k.toList.isEmpty = false := by simpa using h
    have h3 : 1 ≤ k.size := str_full h
    have HE : Hid (kOk k = decide (k.size ≤ 16)) := by show kOk k = decide (k.size ≤ 16); simp [kOk, h3]
    by_cases h4 : k.size ≤ 16
    · have h5 : (k.size : Int) ≤ 16 := by omega
      go_enter Try.func89, Try.ntmps89
      go_wp2
      go_ret
      exact ⟨by rw [HE.out, decide_eq_true h4]; rfl, rfl⟩
    · have h5 : ¬ (k.size : Int) ≤ 16 := by omega
      go_enter Try.func89, Try.ntmps89
      go_wp2
      go_ret
      exact ⟨by rw [HE.out, decide_eq_false h4]; rfl, rfl⟩
theorem specKeyOk_any (k : ByteArray) (w : World) : Calls Try.prog 80 #[.string k] w fun e w' => e = .returned (.bool (kOk k)) ∧ w = w' := by
  by_cases h3 : 1 ≤ k.size
  · have HE : Hid (kOk k = decide (k.size ≤ 16)) := by show kOk k = decide (k.size ≤ 16); simp [kOk, h3]
    have h4 : (1 : Int) ≤ (k.size : Int) := by omega
    by_cases h4 : k.size ≤ 16
    · have h5 : (k.size : Int) ≤ 16 := by omega
      go_enter Try.func80, Try.ntmps80
      go_wp2
      go_ret
      exact ⟨by rw [HE.out, decide_eq_true h4]; rfl, rfl⟩
    · have h5 : ¬ (k.size : Int) ≤ 16 := by omega
      go_enter Try.func80, Try.ntmps80
      go_wp2
      go_ret
      exact ⟨by rw [HE.out, decide_eq_false h4]; rfl, rfl⟩
  · have HE : Hid (kOk k = false) := by show kOk k = false; simp [kOk, h3]
    have h4 : ¬ (1 : Int) ≤ (k.size : Int) := by omega
    go_enter Try.func80, Try.ntmps80
    go_wp2
    go_ret
    exact ⟨by rw [HE.out]; rfl, rfl⟩
def vOk (v : ByteArray) : Bool := decide (v.size ≤ 60)
theorem implKeyOk_is (k : ByteArray) (b : Bool) (h : kOk k = b) (w : World) : Calls Try.prog 89 #[.string k] w fun e w' => e = .returned (.bool b) ∧ w' = w := by
  subst h
  exact (implKeyOk_any k w).mono fun _ _ ⟨h1, h2⟩ => ⟨h1, h2.symm⟩
theorem specKeyOk_is (k : ByteArray) (b : Bool) (h : kOk k = b) (w : World) : Calls Try.prog 80 #[.string k] w fun e w' => e = .returned (.bool b) ∧ w' = w := by
  subst h
  exact (specKeyOk_any k w).mono fun _ _ ⟨h1, h2⟩ => ⟨h1, h2.symm⟩
end Go.Proofs.Ytnbafoennnhppaa

