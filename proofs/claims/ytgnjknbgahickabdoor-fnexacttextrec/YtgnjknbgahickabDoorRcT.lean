/-
  Records' texts as plain data.
-/
import Derived.Test.YtgnjknbgahickabDoorRcA
import Derived.Test.YtgnjknbgahickabDoorPutText
import Derived.Test.YtgnjknbgahickabDoorStr
namespace Go.Proofs.YtgnjknbgahickabDoor
open Go.RowKit
set_option linter.unusedVariables false
def tpart (s : ByteArray) : List Int := enc s.size ++ bytesOf s
def tparts : List ByteArray → List Int
  | [] => []
  | s :: l => tpart s ++ tparts l
theorem tparts_append (l r : List ByteArray) : tparts (l ++ r) = tparts l ++ tparts r := by
  induction l with
  | nil => rfl
  | cons s l ih => simp only [List.cons_append, tparts, ih, List.append_assoc]
theorem tpart_len (s : ByteArray) : (tpart s).length ≤ s.size + 7 := by
  have := enc_len (s.size : Int)
  rw [tpart, List.length_append, bytesOf_len]; omega
theorem tpart_byte (s : ByteArray) (h : s.size ≤ 1048576) : ∀ z ∈ tpart s, 0 ≤ z ∧ z ≤ 255 := byte_append (enc_byte _ (by omega) (by omega)) (bytesOf_byte s)
theorem tparts_byte (l : List ByteArray) (h : ∀ s ∈ l, s.size ≤ 1048576) : ∀ z ∈ tparts l, 0 ≤ z ∧ z ≤ 255 := by
  induction l with
  | nil => intro z hz; cases hz
  | cons s l ih => exact byte_append (tpart_byte s (h s (by simp))) (ih (fun x hx => h x (by simp [hx])))
theorem tparts_len (l : List ByteArray) (h : ∀ s ∈ l, s.size ≤ 20) : (tparts l).length ≤ l.length * 27 := by
  induction l with
  | nil => simp [tparts]
  | cons s l ih =>
    have h1 := tpart_len s
    have h2 := h s (by simp)
    have h3 := ih (fun x hx => h x (by simp [hx]))
    simp only [tparts, List.length_append, List.length_cons]
    omega
def rcMark (k : Int) : Int := if k = 1 then 119 else if k = 2 then 103 else if k = 3 then 115 else 120
def rcPs (k : Int) (ky vl lo hi : ByteArray) : List ByteArray := if k = 1 then [ky, vl] else if k = 2 then [ky] else [lo, hi]
def rcBy (k : Int) (ky vl lo hi : ByteArray) : List Int := rcMark k :: tparts (rcPs k ky vl lo hi)
def rcTx (k : Int) (ky vl lo hi : ByteArray) : ByteArray := if rcOk k ky vl lo hi then strOf (rcBy k ky vl lo hi) else ⟨#[]⟩
/-- What a right record is, in numbers. -/
theorem rcOk_facts {k : Int} {ky vl lo hi : ByteArray} (h : rcOk k ky vl lo hi = true) : (k = 1 ∧ ky.size ≤ 8 ∧ vl.size ≤ 20 ∧ lo.toList = [] ∧ hi.toList = []) ∨ (k = 2 ∧ ky.size ≤ 8 ∧ vl.toList = [] ∧ lo.toList = [] ∧ hi.toList = []) ∨ ((k = 3 ∨ k = 4) ∧ ky.toList = [] ∧ vl.toList = [] ∧ lo.size ≤ 9 ∧ hi.size ≤ 9) := by
  by_cases k1 : k = 1
  · subst k1
    rw [rcOk_1] at h
    simp [uOk, uvOk, isE] at h
    exact .inl ⟨rfl, h.1.2, h.2.1, h.2.2.1, h.2.2.2⟩
  · by_cases k2 : k = 2
    · subst k2
      rw [rcOk_2] at h
      simp [uOk, isE] at h
      exact .inr (.inl ⟨rfl, h.1.2, h.2.1, h.2.2.1, h.2.2.2⟩)
    · by_cases k3 : k = 3 ∨ k = 4
      · have e : rcOk k ky vl lo hi = (isE ky && (isE vl && rchOk lo hi)) := by rcases k3 with rfl | rfl <;> rfl
        rw [e] at h
        simp [isE, rchOk] at h
        exact .inr (.inr ⟨k3, h.1, h.2.1, h.2.2.2.1, h.2.2.2.2⟩)
      · rw [rcOk_no k1 k2 (fun e => k3 (.inl e)) (fun e => k3 (.inr e))] at h
        cases h
theorem rcPs_small {k : Int} {ky vl lo hi : ByteArray} (h : rcOk k ky vl lo hi = true) : ∀ s ∈ rcPs k ky vl lo hi, s.size ≤ 20 := by
  rcases rcOk_facts h with ⟨rfl, h1, h2, _⟩ | ⟨rfl, h1, _⟩ | ⟨rfl | rfl, _, _, h1, h2⟩
  · intro s hs
    simp [rcPs] at hs
    rcases hs with rfl | rfl <;> omega
  · intro s hs
    simp [rcPs] at hs
    subst hs; omega
  · intro s hs
    simp [rcPs] at hs
    rcases hs with rfl | rfl <;> omega
  · intro s hs
    simp [rcPs] at hs
    rcases hs with rfl | rfl <;> omega
theorem Ob.rd' {w : World} {B : Nat} {v : Value} {zs : List Int} (h : Ob w B v zs) (hl : ∀ z ∈ zs, 0 ≤ z ∧ z ≤ 255) (hb : zs.length ≤ 4096) : ∃ a c, v = .slice a zs.length c ∧ Rd w a zs.length c zs := by
  obtain ⟨a, c, h1, h2, _⟩ := h.rd (byte_at hl) (by omega)
  exact ⟨a, c, h1, h2⟩
theorem specPT_fit (a : Option Addr) (n c : Nat) (zs : List Int) (s : ByteArray) (w : World) (h : Rd w a n c zs) (hz : zs.length ≤ 1000) (hs : s.size ≤ 20) :
    Calls Tryd.prog 24 #[.slice a n c, .string s] w fun e w' => ∃ a' n' c', e = .returned (.tuple #[.slice a' n' c', .bool true]) ∧ Rd w' a' n' c' (zs ++ tpart s) ∧ Below w.heap.size w w' := by
  have hn := h.len
  have hb := at_byte h.2.2.2.2.1
  refine (specPutText_any a n c zs s w h (by omega) (by omega)).mono ?_
  rintro e w' ⟨hbel, hp⟩
  have hl := tpart_len s
  have hpt : pt zs s = some (zs ++ tpart s) := by
    unfold pt
    rw [if_pos (by rw [List.append_assoc, List.length_append]; unfold tpart at hl; omega), List.append_assoc]; rfl
  rw [hpt] at hp
  rcases hp with ⟨h0, _⟩ | ⟨v, zs', h0, rfl, ho⟩
  · cases h0
  · cases h0
    obtain ⟨a', c', rfl, hr⟩ := ho.rd' (byte_append hb (tpart_byte s (by omega))) (by rw [List.length_append]; omega)
    exact ⟨a', _, c', rfl, hr, hbel⟩
end Go.Proofs.YtgnjknbgahickabDoor

