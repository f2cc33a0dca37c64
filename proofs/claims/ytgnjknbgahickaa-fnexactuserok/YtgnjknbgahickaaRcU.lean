/-
  Clients' keys and values: UserOk and UvalOk of the program and of the specification, and the laws over them.
-/
import Derived.Test.YtgnjknbgahickaaBase
namespace Go.Proofs.Ytgnjknbgahickaa
open Go.RowKit
set_option linter.unusedVariables false
def uOk (k : ByteArray) : Bool := decide (1 ≤ k.size) && decide (k.size ≤ 8)
def uvOk (v : ByteArray) : Bool := decide (v.size ≤ 20)
theorem implUserOk_any (k : ByteArray) (w : World) : Calls Try.prog 17 #[.string k] w fun e w' => e = .returned (.bool (uOk k)) ∧ w = w' := by
  by_cases h : 1 ≤ k.size
  · have h1 : (1 : Int) ≤ (k.size : Int) := by omega
    have h1' : decide ((1 : Int) ≤ (k.size : Int)) = true := decide_eq_true h1
    have HE : Hid (uOk k = decide ((k.size : Int) ≤ 8)) := by
      show uOk k = _
      simp [uOk, h]
      omega
    go_enter Try.func17, Try.ntmps17
    go_wp2
    go_ret
    exact ⟨by rw [HE.out]; rfl, rfl⟩
  · have h1 : ¬ (1 : Int) ≤ (k.size : Int) := by omega
    have h1' : decide ((1 : Int) ≤ (k.size : Int)) = false := decide_eq_false h1
    have HE : Hid (uOk k = false) := by show uOk k = false; simp [uOk, h]
    go_enter Try.func17, Try.ntmps17
    go_wp2
    go_ret
    exact ⟨by rw [HE.out]; rfl, rfl⟩
theorem implUvalOk_any (k : ByteArray) (w : World) : Calls Try.prog 19 #[.string k] w fun e w' => e = .returned (.bool (uvOk k)) ∧ w = w' := by
  have HE : Hid (uvOk k = decide ((k.size : Int) ≤ 20)) := by
    show uvOk k = _
    simp [uvOk]
    omega
  go_enter Try.func19, Try.ntmps19
  go_wp2
  go_ret
  exact ⟨by rw [HE.out]; rfl, rfl⟩
theorem specUserOk_any (k : ByteArray) (w : World) : Calls Try.prog 16 #[.string k] w fun e w' => e = .returned (.bool (uOk k)) ∧ w = w' := by
  by_cases h : 1 ≤ k.size
  · have h1 : (1 : Int) ≤ (k.size : Int) := by omega
    have h1' : decide ((1 : Int) ≤ (k.size : Int)) = true := decide_eq_true h1
    have HE : Hid (uOk k = decide ((k.size : Int) ≤ 8)) := by
      show uOk k = _
      simp [uOk, h]
      omega
    go_enter Try.func16, Try.ntmps16
    go_wp2
    go_ret
    exact ⟨by rw [HE.out]; rfl, rfl⟩
  · have h1 : ¬ (1 : Int) ≤ (k.size : Int) := by omega
    have h1' : decide ((1 : Int) ≤ (k.size : Int)) = false := decide_eq_false h1
    have HE : Hid (uOk k = false) := by show uOk k = false; simp [uOk, h]
    go_enter Try.func16, Try.ntmps16
    go_wp2
    go_ret
    exact ⟨by rw [HE.out]; rfl, rfl⟩
theorem specUvalOk_any (k : ByteArray) (w : World) : Calls Try.prog 18 #[.string k] w fun e w' => e = .returned (.bool (uvOk k)) ∧ w = w' := by
  have HE : Hid (uvOk k = decide ((k.size : Int) ≤ 20)) := by
    show uvOk k = _
    simp [uvOk]
    omega
  go_enter Try.func18, Try.ntmps18
  go_wp2
  go_ret
  exact ⟨by rw [HE.out]; rfl, rfl⟩
theorem lawUserOk_walk (k : ByteArray) (w : World) (_ : k.size ≤ maxLen) : Calls Try.prog 5 #[.string k] w fun e w' => e = .returned (.bool true) ∧ Below w.heap.size w w' := by
  by_cases hbig : 1048576 < k.size
  · have hb : (1048576 : Int) < (k.size : Int) := by omega
    go_enter Try.func5, Try.ntmps5
    go_wp2
    go_ret
    exact ⟨rfl, Below.refl _ _⟩
  · have hb : ¬ (1048576 : Int) < (k.size : Int) := by omega
    go_enter Try.func5, Try.ntmps5
    go_wp2_with fail
    refine (specUserOk_any k _).mono ?_
    rintro e w1 ⟨rfl, rfl⟩
    go_wp2_with fail
    refine (implUserOk_any k _).mono ?_
    rintro e w1 ⟨rfl, rfl⟩
    cases uOk k
    · go_wp2
      go_ret
      exact ⟨rfl, Below.refl _ _⟩
    · go_wp2
      go_ret
      exact ⟨rfl, Below.refl _ _⟩
theorem lawUvalOk_walk (k : ByteArray) (w : World) (_ : k.size ≤ maxLen) : Calls Try.prog 6 #[.string k] w fun e w' => e = .returned (.bool true) ∧ Below w.heap.size w w' := by
  by_cases hbig : 1048576 < k.size
  · have hb : (1048576 : Int) < (k.size : Int) := by omega
    go_enter Try.func6, Try.ntmps6
    go_wp2
    go_ret
    exact ⟨rfl, Below.refl _ _⟩
  · have hb : ¬ (1048576 : Int) < (k.size : Int) := by omega
    go_enter Try.func6, Try.ntmps6
    go_wp2_with fail
    refine (specUvalOk_any k _).mono ?_
    rintro e w1 ⟨rfl, rfl⟩
    go_wp2_with fail
    refine (implUvalOk_any k _).mono ?_
    rintro e w1 ⟨rfl, rfl⟩
    cases uvOk k
    · go_wp2
      go_ret
      exact ⟨rfl, Below.refl _ _⟩
    · go_wp2
      go_ret
      exact ⟨rfl, Below.refl _ _⟩
end Go.Proofs.Ytgnjknbgahickaa

