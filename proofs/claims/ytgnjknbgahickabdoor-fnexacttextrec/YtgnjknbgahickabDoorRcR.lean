/-
  Plain mathematics: what is read of a record's text on both sides, and that it is what was written.
-/
import Derived.Test.YtgnjknbgahickabDoorRcT
import Derived.Test.YtgnjknbgahickabDoorRcP
import Derived.Test.YtgnjknbgahickabDoorBack
namespace Go.Proofs.YtgnjknbgahickabDoor
set_option linter.unusedVariables false
theorem gvGo_past (f : Nat) (zs : List Int) : ∀ (k : Nat) (n u : Int), gvGo f zs k n u = (0, -1) ∨ (k : Int) < (gvGo f zs k n u).2 := by
  induction f with
  | zero => intro k n u; exact .inl rfl
  | succ f ih =>
    intro k n u
    by_cases hk : k < zs.length
    · by_cases hd : 128 ≤ zs[k]?.getD 0
      · rw [gvGo_more f zs k n u hk hd]
        rcases ih (k + 1) (n + (zs[k]?.getD 0 - 128) * u) (u * 128) with h | h
        · exact .inl h
        · exact .inr (by omega)
      · by_cases hbad : 1099511627775 < n + zs[k]?.getD 0 * u ∨ (zs[k]?.getD 0 = 0 ∧ 1 < u)
        · exact .inl (gvGo_bad f zs k n u hk (by omega) hbad)
        · rw [gvGo_good f zs k n u hk (by omega) hbad]
          exact .inr (by show (k : Int) < (k : Int) + 1; omega)
    · exact .inl (gvGo_end (f + 1) zs k n u (by omega))
theorem gt_step (zs : List Int) (hb : ∀ i : Nat, 0 ≤ zs[i]?.getD 0 ∧ zs[i]?.getD 0 ≤ 255) (p : Int) (h : ¬ (gt zs p).2 < 0) : p < (gt zs p).2 ∧ (gt zs p).2 ≤ zs.length ∧ (gt zs p).1.length ≤ zs.length := by
  have hr := gv_range zs hb p
  have hp : gv zs p = (0, -1) ∨ p < (gv zs p).2 := by
    unfold gv
    split
    · exact .inl rfl
    · rcases gvGo_past 6 zs p.toNat 0 1 with h | h
      · exact .inl h
      · exact .inr (by omega)
  unfold gt at h ⊢
  by_cases hc : (gv zs p).2 < 0 ∨ (zs.length : Int) - (gv zs p).2 < (gv zs p).1
  · rw [if_pos hc] at h
    exact absurd (show ((([], -1) : List Int × Int).2 : Int) < 0 by decide) h
  · rw [if_neg hc]
    rcases hr with e | ⟨j, e1, e2, e3, e4, e5⟩
    · rw [e] at hc
      exact absurd (.inl (show ((0, -1) : Int × Int).2 < 0 by decide)) hc
    · rcases hp with e | e
      · rw [e] at hc
        exact absurd (.inl (show ((0, -1) : Int × Int).2 < 0 by decide)) hc
      · refine ⟨?_, ?_, ?_⟩
        · show p < (gv zs p).2 + (gv zs p).1
          omega
        · show (gv zs p).2 + (gv zs p).1 ≤ (zs.length : Int)
          omega
        · show (List.take _ (List.drop _ zs)).length ≤ zs.length
          rw [List.length_take, List.length_drop]
          omega
theorem gt_low (zs : List Int) (hb : ∀ i : Nat, 0 ≤ zs[i]?.getD 0 ∧ zs[i]?.getD 0 ≤ 255) (p : Int) : -1 ≤ (gt zs p).2 := by
  have hr := gv_range zs hb p
  unfold gt
  split
  · decide
  · rename_i h
    rcases hr with e | ⟨j, e1, e2, e3, e4, e5⟩
    · rw [e] at h
      exact absurd (.inl (show ((0, -1) : Int × Int).2 < 0 by decide)) h
    · show (-1 : Int) ≤ (gv zs p).2 + (gv zs p).1
      omega
theorem gt_part (pre : List Int) (s : ByteArray) (rest : List Int) (h : s.size ≤ 1048576) : gt (pre ++ tpart s ++ rest) (pre.length : Int) = (bytesOf s, ((pre.length + (tpart s).length : Nat) : Int)) := by
  have hl := bytesOf_len s
  have hg := gv_enc pre (bytesOf s ++ rest) (s.size : Int) (by omega) (by omega)
  have e : pre ++ tpart s ++ rest = pre ++ enc (s.size : Int) ++ (bytesOf s ++ rest) := by simp [tpart]
  have hlen : (pre ++ enc (s.size : Int) ++ (bytesOf s ++ rest)).length = pre.length + (enc (s.size : Int)).length + (s.size + rest.length) := by simp only [List.length_append, hl]
  rw [e, gt, hg]
  simp only
  rw [if_neg (by rw [hlen]; omega)]
  have hd : ((pre ++ enc (s.size : Int) ++ (bytesOf s ++ rest)).drop ((pre.length + (enc (s.size : Int)).length : Nat) : Int).toNat) = bytesOf s ++ rest := by
    rw [Int.toNat_natCast, show pre.length + (enc (s.size : Int)).length = (pre ++ enc (s.size : Int)).length by simp, List.drop_left]
  rw [hd, Int.toNat_natCast]
  have ht : (bytesOf s ++ rest).take s.size = bytesOf s := by
    rw [← hl, List.take_left]
  rw [ht]
  simp only [tpart, List.length_append, hl, Prod.mk.injEq, true_and]
  omega
/-- The texts from place p on, f of them at the most. -/
def txF : Nat → List Int → Int → List ByteArray
  | 0, _, _ => []
  | f + 1, zs, p => if p < zs.length then (if (gt zs p).2 < 0 then [] else strOf (gt zs p).1 :: txF f zs (gt zs p).2) else []
theorem txF_end (f : Nat) (zs : List Int) (p : Int) (h : ¬ p < zs.length) : txF f zs p = [] := by
  cases f with
  | zero => rfl
  | succ f => simp only [txF]; rw [if_neg h]
theorem txF_stop (f : Nat) (zs : List Int) (p : Int) (h : (gt zs p).2 < 0) : txF f zs p = [] := by
  cases f with
  | zero => rfl
  | succ f =>
    simp only [txF]
    by_cases hp : p < zs.length
    · rw [if_pos hp, if_pos h]
    · rw [if_neg hp]
theorem txF_more (f : Nat) (zs : List Int) (p : Int) (h1 : p < zs.length) (h2 : ¬ (gt zs p).2 < 0) : txF (f + 1) zs p = strOf (gt zs p).1 :: txF f zs (gt zs p).2 := by
  simp only [txF]; rw [if_pos h1, if_neg h2]
theorem strB (s : ByteArray) : strOf (bytesOf s) = s := by
  apply ByteArray.ext
  simp only [strOf, bytesOf, List.map_map]
  have : (List.map ((fun z : Int => UInt8.ofNat z.toNat) ∘ fun b : UInt8 => ((b.toNat : Nat) : Int)) s.data.toList) = s.data.toList := by
    conv => rhs; rw [← List.map_id s.data.toList]
    refine List.map_congr_left fun b _ => ?_
    simp
  rw [this]
theorem bytS (o : List Int) (hb : ∀ z ∈ o, 0 ≤ z ∧ z ≤ 255) : bytesOf (strOf o) = o := by
  unfold bytesOf strOf
  simp only [List.map_map]
  have : ∀ z ∈ o, ((fun b : UInt8 => (b.toNat : Int)) ∘ fun z : Int => UInt8.ofNat z.toNat) z = z := by
    intro z hz
    have := hb z hz
    simp only [Function.comp, UInt8.toNat_ofNat']
    omega
  rw [List.map_congr_left this]
  simp
theorem txF_parts (ss : List ByteArray) : ∀ (pre : List Int) (f : Nat), ss.length ≤ f → (∀ s ∈ ss, s.size ≤ 1048576) → txF f (pre ++ tparts ss) (pre.length : Int) = ss := by
  induction ss with
  | nil =>
    intro pre f _ _
    exact txF_end _ _ _ (by simp [tparts])
  | cons s ss ih =>
    intro pre f hf hs
    cases f with
    | zero => simp at hf
    | succ f =>
      have h1 := hs s (by simp)
      have hg := gt_part pre s (tparts ss) h1
      have e : pre ++ tparts (s :: ss) = pre ++ tpart s ++ tparts ss := by simp [tparts]
      have hpl : 1 ≤ (tpart s).length := by have := enc_len (s.size : Int); simp only [tpart, List.length_append]; omega
      rw [e, txF_more f _ _ (by simp only [List.length_append]; omega) (by rw [hg]; simp only; omega), hg]
      simp only
      rw [strB]
      congr 1
      have := ih (pre ++ tpart s) f (by simpa using hf) (fun x hx => hs x (by simp [hx]))
      rw [List.length_append] at this
      exact this
/-- The record that the program takes a mark and texts for. -/
def rcO (m : Int) (ss : List ByteArray) : RC :=
  if m = 119 ∧ ss.length = 2 then (1, ss[0]?.getD ⟨#[]⟩, ss[1]?.getD ⟨#[]⟩, ⟨#[]⟩, ⟨#[]⟩)
  else if m = 103 ∧ ss.length = 1 then (2, ss[0]?.getD ⟨#[]⟩, ⟨#[]⟩, ⟨#[]⟩, ⟨#[]⟩)
  else if m = 115 ∧ ss.length = 2 then (3, ⟨#[]⟩, ⟨#[]⟩, ss[0]?.getD ⟨#[]⟩, ss[1]?.getD ⟨#[]⟩)
  else if m = 120 ∧ ss.length = 2 then (4, ⟨#[]⟩, ⟨#[]⟩, ss[0]?.getD ⟨#[]⟩, ss[1]?.getD ⟨#[]⟩)
  else rc0
def kOf (m : Int) : Int := if m = 119 then 1 else if m = 103 then 2 else if m = 115 then 3 else if m = 120 then 4 else 0
/-- The record that the specification takes bytes for. -/
def rcS (zs : List Int) : RC :=
  if 2 < kOf (zs[0]?.getD 0) then (kOf (zs[0]?.getD 0), ⟨#[]⟩, ⟨#[]⟩, strOf (gt zs 1).1, strOf (gt zs (gt zs 1).2).1)
  else (kOf (zs[0]?.getD 0), strOf (gt zs 1).1, if kOf (zs[0]?.getD 0) = 1 then strOf (gt zs (gt zs 1).2).1 else ⟨#[]⟩, ⟨#[]⟩, ⟨#[]⟩)
def rcI (zs : List Int) : RC := rcO (zs[0]?.getD 0) (txF (zs.length + 1) (zs.drop 1) 0)
def rcTxt (r : RC) : ByteArray := rcTx r.1 r.2.1 r.2.2.1 r.2.2.2.1 r.2.2.2.2
theorem emptyB {s : ByteArray} (h : s.toList = []) : s = ⟨#[]⟩ := by
  rw [ByteArray.toList_eq] at h
  apply ByteArray.ext
  apply Array.ext'
  simpa using h
theorem rcBy_byte {k : Int} {ky vl lo hi : ByteArray} (h : rcOk k ky vl lo hi = true) : ∀ z ∈ rcBy k ky vl lo hi, 0 ≤ z ∧ z ≤ 255 := by
  intro z hz
  rcases List.mem_cons.1 hz with rfl | hz
  · unfold rcMark
    split
    · omega
    · split
      · omega
      · split <;> omega
  · exact tparts_byte _ (fun s hs => by have := rcPs_small h s hs; omega) z hz
/-- A right record is read again, by both. -/
theorem rc_back {k : Int} {ky vl lo hi : ByteArray} (h : rcOk k ky vl lo hi = true) : rcI (rcBy k ky vl lo hi) = (k, ky, vl, lo, hi) ∧ rcS (rcBy k ky vl lo hi) = (k, ky, vl, lo, hi) := by
  have hsm := rcPs_small h
  have hI : txF ((rcBy k ky vl lo hi).length + 1) ((rcBy k ky vl lo hi).drop 1) 0 = rcPs k ky vl lo hi := by
    have hp : ∀ ss : List ByteArray, ss.length ≤ (tparts ss).length := by
      intro ss
      induction ss with
      | nil => simp
      | cons s ss ih =>
        have := enc_len (s.size : Int)
        simp only [tparts, tpart, List.length_append, List.length_cons]
        omega
    have h1 := hp (rcPs k ky vl lo hi)
    have := txF_parts (rcPs k ky vl lo hi) [] ((rcBy k ky vl lo hi).length + 1) (by simp only [rcBy, List.length_cons]; omega) (fun s hs => by have := hsm s hs; omega)
    simpa [rcBy] using this
  have hm : (rcBy k ky vl lo hi)[0]?.getD 0 = rcMark k := rfl
  have g1 : ∀ a rest, a.size ≤ 20 → gt (rcMark k :: (tpart a ++ rest)) 1 = (bytesOf a, ((1 + (tpart a).length : Nat) : Int)) := by
    intro a rest ha
    have := gt_part [rcMark k] a rest (by omega)
    simpa using this
  have g2 : ∀ a b, b.size ≤ 20 → gt (rcMark k :: (tpart a ++ (tpart b ++ []))) ((1 + (tpart a).length : Nat) : Int) = (bytesOf b, ((1 + (tpart a).length + (tpart b).length : Nat) : Int)) := by
    intro a b hb
    have := gt_part (rcMark k :: tpart a) b [] (by omega)
    have e : ((rcMark k :: tpart a).length : Int) = ((1 + (tpart a).length : Nat) : Int) := by rw [List.length_cons, Nat.add_comm]
    rw [e] at this
    rw [show rcMark k :: (tpart a ++ (tpart b ++ [])) = rcMark k :: tpart a ++ tpart b ++ [] by simp, this]
    rw [List.length_cons, Nat.add_comm (tpart a).length 1]
  unfold rcI rcS
  rw [hm, hI]
  rcases rcOk_facts h with ⟨rfl, h1, h2, h3, h4⟩ | ⟨rfl, h1, h3, h4, h5⟩ | ⟨hk, h3, h4, h1, h2⟩
  · obtain rfl := emptyB h3
    obtain rfl := emptyB h4
    have e : rcBy 1 ky vl ⟨#[]⟩ ⟨#[]⟩ = rcMark 1 :: (tpart ky ++ (tpart vl ++ [])) := rfl
    rw [e, g1 ky _ (by omega)]
    simp only
    rw [g2 ky vl (by omega)]
    refine ⟨rfl, ?_⟩
    show (1, strOf (bytesOf ky), strOf (bytesOf vl), _, _) = _
    rw [strB, strB]
  · obtain rfl := emptyB h3
    obtain rfl := emptyB h4
    obtain rfl := emptyB h5
    have e : rcBy 2 ky ⟨#[]⟩ ⟨#[]⟩ ⟨#[]⟩ = rcMark 2 :: (tpart ky ++ []) := rfl
    rw [e, g1 ky _ (by omega)]
    refine ⟨rfl, ?_⟩
    show (2, strOf (bytesOf ky), _, _, _) = _
    rw [strB]
    rfl
  · obtain rfl := emptyB h3
    obtain rfl := emptyB h4
    rcases hk with rfl | rfl
    · have e : rcBy 3 ⟨#[]⟩ ⟨#[]⟩ lo hi = rcMark 3 :: (tpart lo ++ (tpart hi ++ [])) := rfl
      rw [e, g1 lo _ (by omega)]
      simp only
      rw [g2 lo hi (by omega)]
      refine ⟨rfl, ?_⟩
      show (3, _, _, strOf (bytesOf lo), strOf (bytesOf hi)) = _
      rw [strB, strB]
    · have e : rcBy 4 ⟨#[]⟩ ⟨#[]⟩ lo hi = rcMark 4 :: (tpart lo ++ (tpart hi ++ [])) := rfl
      rw [e, g1 lo _ (by omega)]
      simp only
      rw [g2 lo hi (by omega)]
      refine ⟨rfl, ?_⟩
      show (4, _, _, strOf (bytesOf lo), strOf (bytesOf hi)) = _
      rw [strB, strB]
/-- What TextRec answers. -/
def trV (s : ByteArray) : RC × Bool := if s.toList ≠ [] ∧ (rcTxt (rcS (bytesOf s))).toList = s.toList then (rcS (bytesOf s), true) else (rc0, false)
theorem toList_inj {a b : ByteArray} (h : a.toList = b.toList) : a = b := by
  rw [ByteArray.toList_eq, ByteArray.toList_eq] at h
  apply ByteArray.ext
  exact Array.ext' h
/-- What is read is written so, and right. -/
theorem rc_read {r : RC} {s : ByteArray} (hs : s.toList ≠ []) (h : (rcTxt r).toList = s.toList) : rcOk r.1 r.2.1 r.2.2.1 r.2.2.2.1 r.2.2.2.2 = true ∧ rcI (bytesOf s) = r ∧ rcS (bytesOf s) = r := by
  have e := toList_inj h
  unfold rcTxt rcTx at e
  by_cases hok : rcOk r.1 r.2.1 r.2.2.1 r.2.2.2.1 r.2.2.2.2 = true
  · rw [if_pos hok] at e
    rw [← e, bytS _ (rcBy_byte hok)]
    exact ⟨hok, rc_back hok⟩
  · rw [if_neg hok] at e
    refine absurd ?_ hs
    rw [← e, ByteArray.toList_eq]
theorem trV_impl (s : ByteArray) : trV s = if s.toList ≠ [] ∧ (rcTxt (rcI (bytesOf s))).toList = s.toList then (rcI (bytesOf s), true) else (rc0, false) := by
  unfold trV
  by_cases h : s.toList ≠ [] ∧ (rcTxt (rcS (bytesOf s))).toList = s.toList
  · obtain ⟨_, h1, h2⟩ := rc_read h.1 h.2
    rw [if_pos h, if_pos ⟨h.1, by rw [h1]; exact h.2⟩, h1]
  · by_cases k : s.toList ≠ [] ∧ (rcTxt (rcI (bytesOf s))).toList = s.toList
    · obtain ⟨_, h1, h2⟩ := rc_read k.1 k.2
      exact absurd ⟨k.1, by rw [h2]; exact k.2⟩ h
    · rw [if_neg h, if_neg k]
end Go.Proofs.YtgnjknbgahickabDoor

