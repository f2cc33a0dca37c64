/-
  What two ranges have in common, as far as FnBoth turns on it: a key is in it just if it is in both, and it lies within each.
-/
import Derived.Test.YtbfgjadonilonaaRngBA
import Derived.Test.YtbfgjadonilonaaRngI
namespace Go.Proofs.Ytbfgjadonilonaa
open Go.RowKit
theorem mxl_has (k la lb : ByteArray) : Op.bytesLess k.toList (mxl la lb).toList = (Op.bytesLess k.toList la.toList || Op.bytesLess k.toList lb.toList) := by
  cases h : Op.bytesLess la.toList lb.toList with
  | true =>
    simp only [mxl, h, if_true]
    cases h1 : Op.bytesLess k.toList la.toList with
    | true => rw [less_trans _ _ _ h1 h]; rfl
    | false => rfl
  | false =>
    rw [show mxl la lb = la from if_neg (by rw [h]; decide)]
    cases h1 : Op.bytesLess k.toList lb.toList with
    | true => rw [show Op.bytesLess k.toList la.toList = true from less_nless _ _ _ h1 h]; rfl
    | false => simp
theorem lsr_has (k ha hb : ByteArray) : ahd k (lsr ha hb) = (ahd k ha && ahd k hb) := by
  by_cases h : ha.toList = []
  · rw [show lsr ha hb = hb from if_pos h]
    simp [ahd, h]
  · cases h2 : ahd ha hb with
    | true =>
      rw [show lsr ha hb = ha from (if_neg h).trans (if_pos h2)]
      cases h3 : ahd k ha with
      | false => rfl
      | true =>
        have h4 : Op.bytesLess k.toList ha.toList = true := by simpa [ahd, h] using h3
        by_cases h5 : hb.toList = []
        · simp [ahd, h5]
        · have h6 : Op.bytesLess ha.toList hb.toList = true := by simpa [ahd, h5] using h2
          simp [ahd, less_trans _ _ _ h4 h6]
    | false =>
      rw [show lsr ha hb = hb from (if_neg h).trans (if_neg (by rw [h2]; decide))]
      have h5 : ¬ hb.toList = [] := fun e => by simp [ahd, e] at h2
      have h6 : Op.bytesLess ha.toList hb.toList = false := by simpa [ahd, h5] using h2
      cases h3 : ahd k hb with
      | false => simp
      | true =>
        have h4 : Op.bytesLess k.toList hb.toList = true := by simpa [ahd, h5] using h3
        simp [ahd, less_nless _ _ _ h4 h6]
theorem mxl_size (a b : ByteArray) (ha : a.size ≤ 17) (hb : b.size ≤ 17) : (mxl a b).size ≤ 17 := by
  unfold mxl; split <;> assumption
theorem lsr_size (a b : ByteArray) (ha : a.size ≤ 17) (hb : b.size ≤ 17) : (lsr a b).size ≤ 17 := by
  unfold lsr; split
  · assumption
  · split <;> assumption
theorem rOk_parts {lo hi : ByteArray} (h : rOk lo hi = true) : lo.size ≤ 17 ∧ hi.size ≤ 17 ∧ ahd lo hi = true := by
  simp [rOk] at h; exact ⟨h.1.1, h.1.2, h.2⟩
theorem both_no {la ha lb hb k : ByteArray} (h : bth la ha lb hb = false) : (rHas la ha k && rHas lb hb k) = false := by
  cases h1 : rHas la ha k with
  | false => rfl
  | true =>
    cases h2 : rHas lb hb k with
    | false => rfl
    | true =>
      exfalso
      simp only [rHas, Bool.and_eq_true, Bool.not_eq_true'] at h1 h2
      obtain ⟨⟨⟨a1, _⟩, a3⟩, a4⟩ := h1
      obtain ⟨⟨⟨b1, _⟩, b3⟩, b4⟩ := h2
      obtain ⟨a5, a6, _⟩ := rOk_parts a1
      obtain ⟨b5, b6, _⟩ := rOk_parts b1
      have hm : Op.bytesLess k.toList (mxl la lb).toList = false := by rw [mxl_has, a3, b3]; rfl
      have hl : ahd k (lsr ha hb) = true := by rw [lsr_has, a4, b4]; rfl
      have hx : ahd (mxl la lb) (lsr ha hb) = true := by
        by_cases e : (lsr ha hb).toList = []
        · simp [ahd, e]
        · have : Op.bytesLess k.toList (lsr ha hb).toList = true := by simpa [ahd, e] using hl
          simp [ahd, nless_less _ _ _ hm this]
      have : rOk (mxl la lb) (lsr ha hb) = true := by
        simp only [rOk, hx, Bool.and_true, Bool.and_eq_true, decide_eq_true_eq]
        exact ⟨mxl_size _ _ a5 b5, lsr_size _ _ a6 b6⟩
      simp [bth, a1, b1, this] at h
theorem both_yes {la ha lb hb k : ByteArray} (h : bth la ha lb hb = true) : rHas (bLo la ha lb hb) (bHi la ha lb hb) k = (rHas la ha k && rHas lb hb k) := by
  rw [show bLo la ha lb hb = mxl la lb from if_pos h, show bHi la ha lb hb = lsr ha hb from if_pos h]
  simp only [bth, Bool.and_eq_true] at h
  obtain ⟨⟨h1, h2⟩, h3⟩ := h
  simp only [rHas, h1, h2, h3, mxl_has, lsr_has, Bool.true_and]
  cases kOk k <;> cases Op.bytesLess k.toList la.toList <;> cases Op.bytesLess k.toList lb.toList <;> cases ahd k ha <;> cases ahd k hb <;> rfl
theorem both_in1 {la ha lb hb : ByteArray} (h : bth la ha lb hb = true) : rIn (bLo la ha lb hb) (bHi la ha lb hb) la ha = true := by
  rw [show bLo la ha lb hb = mxl la lb from if_pos h, show bHi la ha lb hb = lsr ha hb from if_pos h]
  simp only [bth, Bool.and_eq_true] at h
  obtain ⟨⟨h1, h2⟩, h3⟩ := h
  have hm : Op.bytesLess (mxl la lb).toList la.toList = false := by
    cases h : Op.bytesLess la.toList lb.toList with
    | true => simp only [mxl, h, if_true]; exact less_asymm _ _ h
    | false => rw [show mxl la lb = la from if_neg (by rw [h]; decide)]; exact less_irrefl _
  simp only [rIn, h1, h3, hm, Bool.true_and, Bool.not_false]
  by_cases e : ha.toList = []
  · simp [e]
  · cases h4 : ahd ha hb with
    | true =>
      rw [show lsr ha hb = ha from (if_neg e).trans (if_pos h4)]
      simp [e, less_irrefl]
    | false =>
      rw [show lsr ha hb = hb from (if_neg e).trans (if_neg (by rw [h4]; decide))]
      have h5 : ¬ hb.toList = [] := fun e => by simp [ahd, e] at h4
      have h6 : Op.bytesLess ha.toList hb.toList = false := by simpa [ahd, h5] using h4
      simp [h5, h6]
theorem both_in2 {la ha lb hb : ByteArray} (h : bth la ha lb hb = true) : rIn (bLo la ha lb hb) (bHi la ha lb hb) lb hb = true := by
  rw [show bLo la ha lb hb = mxl la lb from if_pos h, show bHi la ha lb hb = lsr ha hb from if_pos h]
  simp only [bth, Bool.and_eq_true] at h
  obtain ⟨⟨h1, h2⟩, h3⟩ := h
  have hm : Op.bytesLess (mxl la lb).toList lb.toList = false := by
    cases h : Op.bytesLess la.toList lb.toList with
    | true => simp only [mxl, h, if_true]; exact less_irrefl _
    | false => rw [show mxl la lb = la from if_neg (by rw [h]; decide)]; exact h
  simp only [rIn, h2, h3, hm, Bool.true_and, Bool.not_false]
  by_cases e : hb.toList = []
  · simp [e]
  · by_cases e1 : ha.toList = []
    · rw [show lsr ha hb = hb from if_pos e1]
      simp [e, less_irrefl]
    · cases h4 : ahd ha hb with
      | true =>
        rw [show lsr ha hb = ha from (if_neg e1).trans (if_pos h4)]
        have h6 : Op.bytesLess ha.toList hb.toList = true := by simpa [ahd, e] using h4
        simp [e1, less_asymm _ _ h6]
      | false =>
        rw [show lsr ha hb = hb from (if_neg e1).trans (if_neg (by rw [h4]; decide))]
        simp [e, less_irrefl]
end Go.Proofs.Ytbfgjadonilonaa
