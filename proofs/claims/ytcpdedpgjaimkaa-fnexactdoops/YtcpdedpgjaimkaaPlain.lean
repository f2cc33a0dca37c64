/-
  Plain mathematics: the digits of a number to the base 128, and how a number is read from bytes.
-/
import Derived.RowKit
namespace Go.Proofs.Ytcpdedpgjaimkaa

/-- The digits of n, the lowest first, each but the last with 128 added; f of them at most before the last. -/
def encF : Nat → Int → List Int
  | 0, n => [n]
  | f + 1, n => if 128 ≤ n then (128 + n % 128) :: encF f (n / 128) else [n]
def enc (n : Int) : List Int := encF 6 n
/-- What f digits and one more can hold. -/
def bnd : Nat → Int
  | 0 => 128
  | f + 1 => 128 * bnd f

theorem bnd_pos (f : Nat) : 128 ≤ bnd f := by
  induction f with
  | zero => simp [bnd]
  | succ f ih => simp only [bnd]; omega
theorem encF_small (f : Nat) (n : Int) (h : n < 128) : encF f n = [n] := by
  cases f with
  | zero => rfl
  | succ f => simp only [encF]; rw [if_neg (by omega)]
theorem encF_big (f : Nat) (n : Int) (h : 128 ≤ n) : encF (f + 1) n = (128 + n % 128) :: encF f (n / 128) := by
  simp only [encF]; rw [if_pos h]
theorem bnd_down (f : Nat) (n : Int) (h : n < bnd (f + 1)) : n / 128 < bnd f := by
  simp only [bnd] at h
  omega
theorem encF_byte (f : Nat) : ∀ n : Int, 0 ≤ n → n < bnd f → ∀ z ∈ encF f n, 0 ≤ z ∧ z ≤ 255 := by
  induction f with
  | zero =>
    intro n h0 h1 z hz
    simp [encF] at hz
    simp [bnd] at h1
    omega
  | succ f ih =>
    intro n h0 h1 z hz
    by_cases h : 128 ≤ n
    · rw [encF_big f n h] at hz
      rcases List.mem_cons.1 hz with e | e
      · omega
      · exact ih (n / 128) (by omega) (bnd_down f n h1) z e
    · rw [encF_small _ n (by omega)] at hz
      simp at hz
      omega
theorem encF_len (f : Nat) : ∀ n : Int, 1 ≤ (encF f n).length ∧ (encF f n).length ≤ f + 1 := by
  induction f with
  | zero => intro n; simp [encF]
  | succ f ih =>
    intro n
    by_cases h : 128 ≤ n
    · rw [encF_big f n h]
      have := ih (n / 128)
      simp; omega
    · rw [encF_small _ n (by omega)]
      simp
theorem enc_byte (n : Int) (h0 : 0 ≤ n) (h1 : n ≤ 1099511627775) : ∀ z ∈ enc n, 0 ≤ z ∧ z ≤ 255 := encF_byte 6 n h0 (by simp [bnd]; omega)
theorem enc_len (n : Int) : 1 ≤ (enc n).length ∧ (enc n).length ≤ 7 := encF_len 6 n

theorem byte_at {zs : List Int} (h : ∀ z ∈ zs, 0 ≤ z ∧ z ≤ 255) (i : Nat) : 0 ≤ zs[i]?.getD 0 ∧ zs[i]?.getD 0 ≤ 255 := by
  by_cases hi : i < zs.length
  · have := h zs[i] (List.getElem_mem hi)
    simpa [hi] using this
  · have : zs[i]? = none := List.getElem?_eq_none (by omega)
    simp [this]
theorem at_byte {zs : List Int} (h : ∀ i : Nat, 0 ≤ zs[i]?.getD 0 ∧ zs[i]?.getD 0 ≤ 255) : ∀ z ∈ zs, 0 ≤ z ∧ z ≤ 255 := by
  intro z hz
  obtain ⟨i, hi, rfl⟩ := List.getElem_of_mem hz
  have := h i
  simpa [hi] using this
theorem byte_append {xs ys : List Int} (hx : ∀ z ∈ xs, 0 ≤ z ∧ z ≤ 255) (hy : ∀ z ∈ ys, 0 ≤ z ∧ z ≤ 255) : ∀ z ∈ xs ++ ys, 0 ≤ z ∧ z ≤ 255 := by
  intro z hz
  rcases List.mem_append.1 hz with h | h
  · exact hx z h
  · exact hy z h

/-- What PutVar answers: the bytes, where the number is one and the bytes are not too many. -/
def pv (zs : List Int) (n : Int) : Option (List Int) := if (0 ≤ n ∧ n ≤ 1099511627775) ∧ (zs ++ enc n).length ≤ 4096 then some (zs ++ enc n) else none
theorem pv_bad (zs : List Int) (n : Int) (h : n < 0 ∨ 1099511627775 < n) : pv zs n = none := by
  unfold pv; rw [if_neg (by omega)]
theorem pv_long (zs : List Int) (n : Int) (h : 4096 < (zs ++ enc n).length) : pv zs n = none := by
  unfold pv; rw [if_neg (by omega)]
theorem pv_ok (zs : List Int) (n : Int) (h0 : 0 ≤ n) (h1 : n ≤ 1099511627775) (h : (zs ++ enc n).length ≤ 4096) : pv zs n = some (zs ++ enc n) := by
  unfold pv; rw [if_pos ⟨⟨h0, h1⟩, h⟩]

/-- The weight of the digit that f more may follow, up to six digits. -/
def uOf : Nat → Int
  | 0 => 4398046511104
  | 1 => 34359738368
  | 2 => 268435456
  | 3 => 2097152
  | 4 => 16384
  | 5 => 128
  | _ => 1
theorem uOf_next (f : Nat) (h : f < 6) : uOf (f + 1) * 128 = uOf f := by
  match f, h with
  | 0, _ => rfl
  | 1, _ => rfl
  | 2, _ => rfl
  | 3, _ => rfl
  | 4, _ => rfl
  | 5, _ => rfl
theorem uOf_le (f : Nat) (h : 0 < f) : 1 ≤ uOf f ∧ uOf f ≤ 34359738368 := by
  match f, h with
  | 1, _ => simp [uOf]
  | 2, _ => simp [uOf]
  | 3, _ => simp [uOf]
  | 4, _ => simp [uOf]
  | 5, _ => simp [uOf]
  | n + 6, _ => simp [uOf]
theorem uOf_one (f : Nat) (h : 0 < f) (h6 : f ≤ 6) : 1 < uOf f ↔ f < 6 := by
  match f, h, h6 with
  | 1, _, _ => simp [uOf]
  | 2, _, _ => simp [uOf]
  | 3, _, _ => simp [uOf]
  | 4, _, _ => simp [uOf]
  | 5, _, _ => simp [uOf]
  | 6, _, _ => simp [uOf]

/-- Reading on at place k: n is what is read, u the weight of the next digit, f how many digits may come. -/
def gvGo : Nat → List Int → Nat → Int → Int → Int × Int
  | 0, _, _, _, _ => (0, -1)
  | f + 1, zs, k, n, u =>
    if k < zs.length then
      if 128 ≤ zs[k]?.getD 0 then gvGo f zs (k + 1) (n + (zs[k]?.getD 0 - 128) * u) (u * 128)
      else if 1099511627775 < n + zs[k]?.getD 0 * u ∨ (zs[k]?.getD 0 = 0 ∧ 1 < u) then (0, -1) else (n + zs[k]?.getD 0 * u, (k : Int) + 1)
    else (0, -1)
/-- What GetVar answers. -/
def gv (zs : List Int) (at' : Int) : Int × Int := if at' < 0 then (0, -1) else gvGo 6 zs at'.toNat 0 1
theorem gvGo_end (f : Nat) (zs : List Int) (k : Nat) (n u : Int) (h : zs.length ≤ k) : gvGo f zs k n u = (0, -1) := by
  cases f with
  | zero => rfl
  | succ f => simp only [gvGo]; rw [if_neg (by omega)]
theorem gvGo_more (f : Nat) (zs : List Int) (k : Nat) (n u : Int) (h : k < zs.length) (hd : 128 ≤ zs[k]?.getD 0) : gvGo (f + 1) zs k n u = gvGo f zs (k + 1) (n + (zs[k]?.getD 0 - 128) * u) (u * 128) := by
  simp only [gvGo]; rw [if_pos h, if_pos hd]
theorem gvGo_bad (f : Nat) (zs : List Int) (k : Nat) (n u : Int) (h : k < zs.length) (hd : zs[k]?.getD 0 < 128) (hb : 1099511627775 < n + zs[k]?.getD 0 * u ∨ (zs[k]?.getD 0 = 0 ∧ 1 < u)) : gvGo (f + 1) zs k n u = (0, -1) := by
  simp only [gvGo]; rw [if_pos h, if_neg (by omega), if_pos hb]
theorem gvGo_good (f : Nat) (zs : List Int) (k : Nat) (n u : Int) (h : k < zs.length) (hd : zs[k]?.getD 0 < 128) (hb : ¬ (1099511627775 < n + zs[k]?.getD 0 * u ∨ (zs[k]?.getD 0 = 0 ∧ 1 < u))) : gvGo (f + 1) zs k n u = (n + zs[k]?.getD 0 * u, (k : Int) + 1) := by
  simp only [gvGo]; rw [if_pos h, if_neg (by omega), if_neg hb]

/-- How many bytes a code has. -/
theorem encF_length_eq : ∀ (j f : Nat) (n : Int), 0 ≤ n → j ≤ f → ((encF f n).length = j + 1 ↔ ((j = 0 ∨ bnd (j - 1) ≤ n) ∧ (n < bnd j ∨ j = f))) := by
  intro j
  induction j with
  | zero =>
    intro f n h0 hj
    cases f with
    | zero => simp [encF]
    | succ f =>
      by_cases h : 128 ≤ n
      · rw [encF_big f n h]
        have := encF_len f (n / 128)
        have hb : bnd 0 = 128 := rfl
        simp only [List.length_cons]
        omega
      · rw [encF_small _ n (by omega)]
        simp [bnd]; omega
  | succ j ih =>
    intro f n h0 hj
    cases f with
    | zero => omega
    | succ f =>
      by_cases h : 128 ≤ n
      · rw [encF_big f n h]
        have e := ih f (n / 128) (by omega) (by omega)
        simp only [List.length_cons, Nat.add_right_cancel_iff] at e ⊢
        rw [e]
        cases j with
        | zero => simp [bnd]; omega
        | succ j =>
          simp only [bnd, Nat.add_sub_cancel]
          omega
      · rw [encF_small _ n (by omega)]
        have := bnd_pos j
        simp; omega

end Go.Proofs.Ytcpdedpgjaimkaa

