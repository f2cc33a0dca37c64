/-
  Clients' keys and values: UserOk and UvalOk of the program and of the specification, and the laws over them.
-/
import Derived.Test.YtnbafoennnhppaaBase
namespace Go.Proofs.Ytnbafoennnhppaa
open Go.RowKit
set_option linter.unusedVariables false
def uOk (k : ByteArray) : Bool := decide (1 ≤ k.size) && decide (k.size ≤ 8)
def uvOk (v : ByteArray) : Bool := decide (v.size ≤ 20)
theorem implUserOk_any (k : ByteArray) (w : World) : Calls Try.prog 45 #[.string k] w fun e w' => e = .returned (.bool (uOk k)) ∧ w = w' := by
  by_cases h : 1 ≤ k.size
  · have h1 : (1 : Int) ≤ (k.size : Int) := by omega
    have h1' : decide ((1 : Int) ≤ (k.size : Int)) = true := decide_eq_true h1
    have HE : Hid (uOk k = decide ((k.size : Int) ≤ 8)) := by
      show uOk k = _
      simp [uOk, h]
      omega
    go_enter Try.func45, Try.ntmps45
    go_wp2
    go_ret
    exact ⟨by rw [HE.out]; rfl, rfl⟩
  · have h1 : ¬ (1 : Int) ≤ (k.size : Int) := by omega
    have h1' : decide ((1 : Int) ≤ (k.size : Int)) = false := decide_eq_false h1
    have HE : Hid (uOk k = false) := by show uOk k = false; simp [uOk, h]
    go_enter Try.func45, Try.ntmps45
    go_wp2
    go_ret
    exact ⟨by rw [HE.out]; rfl, rfl⟩
theorem implUvalOk_any (k : ByteArray) (w : World) : Calls Try.prog 46 #[.string k] w fun e w' => e = .returned (.bool (uvOk k)) ∧ w = w' := by
  have HE : Hid (uvOk k = decide ((k.size : Int) ≤ 20)) := by
    show uvOk k = _
    simp [uvOk]
    omega
  go_enter Try.func46, Try.ntmps46
  go_wp2
  go_ret
  exact ⟨by rw [HE.out]; rfl, rfl⟩
theorem specUserOk_any (k : ByteArray) (w : World) : Calls Try.prog 49 #[.string k] w fun e w' => e = .returned (.bool (uOk k)) ∧ w = w' := by
  by_cases h : 1 ≤ k.size
  · have h1 : (1 : Int) ≤ (k.size : Int) := by omega
    have h1' : decide ((1 : Int) ≤ (k.size : Int)) = true := decide_eq_true h1
    have HE : Hid (uOk k = decide ((k.size : Int) ≤ 8)) := by
      show uOk k = _
      simp [uOk, h]
      omega
    go_enter Try.func49, Try.ntmps49
    go_wp2
    go_ret
    exact ⟨by rw [HE.out]; rfl, rfl⟩
  · have h1 : ¬ (1 : Int) ≤ (k.size : Int) := by omega
    have h1' : decide ((1 : Int) ≤ (k.size : Int)) = false := decide_eq_false h1
    have HE : Hid (uOk k = false) := by show uOk k = false; simp [uOk, h]
    go_enter Try.func49, Try.ntmps49
    go_wp2
    go_ret
    exact ⟨by rw [HE.out]; rfl, rfl⟩
theorem specUvalOk_any (k : ByteArray) (w : World) : Calls Try.prog 50 #[.string k] w fun e w' => e = .returned (.bool (uvOk k)) ∧ w = w' := by
  have HE : Hid (uvOk k = decide ((k.size : Int) ≤ 20)) := by
    show uvOk k = _
    simp [uvOk]
    omega
  go_enter Try.func50, Try.ntmps50
  go_wp2
  go_ret
  exact ⟨by rw [HE.out]; rfl, rfl⟩
end Go.Proofs.Ytnbafoennnhppaa

